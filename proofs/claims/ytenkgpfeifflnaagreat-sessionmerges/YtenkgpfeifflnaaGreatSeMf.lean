/-
  SessionMerges: the walk.
-/
import Derived.Test.YtenkgpfeifflnaaGreatMqG
import Derived.Test.YtenkgpfeifflnaaGreatMqH
namespace Go.Proofs.YtenkgpfeifflnaaGreat.Sme
open Go.RowKit Kt Pl Wi Wk Wa Sm Sa Sb Sc Sd Sf Sl Sx Scp Srd Sra Smg Stx Smp Scl
open Dk (Fr Nx)
open At (RowT)
open Wfr (RpIn)
open Wgr (rcheckReply_any)
set_option linter.unusedVariables false
set_option linter.unusedSimpArgs false
set_option maxRecDepth 20000

abbrev Tt (w : World) (T Mb : Nat) (l : List E) : Prop := Tb w (fun _ => True) T Mb l
def rD (r : Rp) : Rp := { fR r with data := [] }
theorem rD_cnt (r : Rp) : Cnt (rD r) := ⟨(fR_cnt r).1, by simp [rD], (fR_cnt r).2.2⟩
theorem rD_mem {w : World} {r : Rp} {ga da ra : Option Addr} (h : RpM w (fR r) ga da ra) : RpM w (rD r) ga none ra := ⟨h.got, fun h => by simp [rD] at h, h.about⟩
theorem dump_ok {l : List E} (hn : ∀ e ∈ l, num e.k ∧ num e.n ∧ Cnt e.r) (hl : l.length ≤ 64) : (texts fD l).length ≤ 1000 ∧ (∀ t ∈ texts fD l, t.length ≤ 500000000) ∧ readE (texts fD l) = some (l.filter (okW fD)) := by
  refine ⟨?_, fun t ht => ?_, readE_texts fD l (fun e he => ⟨(hn e he).1, (hn e he).2.1⟩)⟩
  · unfold texts
    rw [List.length_map]
    have := List.length_filter_le (okW fD) l
    omega
  · unfold texts at ht
    obtain ⟨e, he, rfl⟩ := List.mem_map.1 ht
    obtain ⟨h1, h2⟩ := List.mem_filter.1 he
    have hck : checkR e.r = 0 := by unfold okW at h2; simp at h2; exact h2.2
    have h3 := Wv.rp_len hck
    obtain ⟨n1, n2, -⟩ := hn e h1
    unfold num at n1 n2
    have h4 := encN_len e.k (by omega)
    have h5 := encN_len e.n (by omega)
    unfold encE
    simp only [List.length_append]
    omega
theorem mgP_dump {w w' : World} {T Mb : Nat} {l lu : List E} {e : Ending} (hn : ∀ e ∈ lu, num e.k ∧ num e.n ∧ Cnt e.r) (hl : lu.length ≤ 64) (h : MgP w T Mb l (texts fD lu) e w') : e = .returned (.int .i64 0) ∧ Tt w' T Mb (mrg l (lu.filter (okW fD))) ∧ Fr (fun k => k = Mb) w w' := by
  have hr := (dump_ok hn hl).2.2
  obtain ⟨hf, ⟨es, h1, h2, h3⟩ | ⟨h1, -⟩⟩ := h
  · rw [hr] at h1
    cases h1
    exact ⟨h2, h3, hf⟩
  · rw [hr] at h1
    cases h1
theorem wrap_is (x : Int) : IntKind.i64.wrap x = wrap64 x := by
  unfold wrap64 IntKind.wrap
  simp [IntKind.signed, IntKind.bits]
  split <;> omega
theorem check_none : checkR Rp.none = 0 := by decide

set_option maxHeartbeats 32000000 in
theorem merges_walk (w : World) (A B : List Ac) (aa ab : Option Addr) (capA capB : Nat) (hra : RowA w aa A) (hia : ∀ x ∈ A, AcIn w x) (hla : A.length ≤ 9223372036854775807) (hrb : RowA w ab B) (hib : ∀ x ∈ B, AcIn w x) (hlb : B.length ≤ 9223372036854775807) :
    Calls Tryz.prog 5 #[.slice aa A.length capA, .slice ab B.length capB] w fun e w' => e = .returned (.bool true) ∧ Below w.heap.size w w' := by
  have hmx : Tryz.prog.follows .mixedOrders = true := by kernel_rfl
  have HRA := mkH hra
  have HIA := mkH hia
  have HRB := mkH hrb
  have HIB := mkH hib
  clear hra hia hrb hib
  go_enter Tryz.func5, Tryz.ntmps5
  go_upto_block 0 with (first
    | (go_at_call 6; refine (new_any W1).mono ?_; rintro e1 W2 ⟨rfl, ht2, hb2⟩; have HU2 : Hid (Tt W2 (W1.heap.size + 1) W1.heap.size []) := mkH (ht2.mono (fun _ _ => trivial)); have HT2 := mkH (HT1.out.below hb2); have HB2 := mkH (HB1.out.trans (hb2.mono HB1.out.size)); have hm12 : w.heap.size < W1.heap.size := Tb.lt HT1.out; clear ht2 hb2)
    | (go_at_call 6; refine (new_any w).mono ?_; rintro e1 W1 ⟨rfl, ht1, hb1⟩; have HT1 : Hid (Tt W1 (w.heap.size + 1) w.heap.size []) := mkH (ht1.mono (fun _ _ => trivial)); have HB1 := mkH hb1; clear ht1 hb1))
  generalize hT1 : w.heap.size + 1 = T1 at *
  generalize hT2 : W1.heap.size + 1 = T2 at *
  generalize hM2 : W1.heap.size = M2 at *
  have hM2' := mkH hM2
  clear hM2 hT1 hT2 HT1 HB1
  go_cut [7] (fun _ WW => ∃ l1, Hid (Tt WW T1 w.heap.size l1) ∧ Hid (Tt WW T2 M2 []) ∧ Hid (In6 l1) ∧ Hid (Below w.heap.size w WW))
  case first =>
    go_wp2_with fail
    go_loopw [7] (fun i wr => ∃ k : Nat, ∃ l1, k ≤ A.length ∧ k ≤ 20 ∧ i = .int .i64 (k : Int) ∧ Hid (Tt wr T1 w.heap.size l1) ∧ Hid (Tt wr T2 M2 []) ∧ Hid (In6 l1) ∧ Hid (Below w.heap.size w wr)) (fun i _ => 20 - (intOf i).toNat)
    case atStart => exact ⟨0, [], Nat.zero_le _, Nat.zero_le _, rfl, HT2, HU2, mkH In6.nil, HB2⟩
    case round =>
      obtain ⟨k, l1, hk, hk2, rfl, HTr, HUr, HIr, HBr⟩ := hrel
      by_cases hlt : k < A.length ∧ k < 20
      · obtain ⟨hlt, hlt2⟩ := hlt
        have c2 : (k : Int) < 20 := by omega
        obtain ⟨x, hx⟩ := some_of hlt
        have HIN := mkH ((HIA.out x (List.mem_of_getElem? hx)).below HBr.out)
        obtain ⟨b, off, hao, -, -, -, -, hld⟩ := atA (HRA.out.below HBr.out) hx
        obtain ⟨c, hc, hc5, hc6⟩ := mod_in x.cl 6 (by decide) (by decide)
        obtain ⟨n, hn, hn5, hn6⟩ := mod_in x.nu 9 (by decide) (by decide)
        have HLD := mkH hld
        have HX := mkH hx
        subst hao
        clear hx hld
        go_wp2_with (first
          | (refine wpList_stn rfl (ty := 34) (x := .tmp 8) (y := .tmp 45) (cs := Pv (fR x.r) g4 gc4 d4 dc4 r4 rc4) (zs := Sw.zP6) rfl rfl rfl (Sw.infoPv _ _ _ _ _ _ _) (Sw.sizePv _ _ _ _ _ _ _) (Pv_one _ _ _ _ _ _ _) (fun W5 hB5 hg5 => ?_); have c4 : W5.cell? ⟨W4.heap.size, 4, none⟩ = some (.slice d4 (fR x.r).data.length dc4) := hB5.cell 4; have f4 := hB5.frozen 4; have HX5 := mkH hB5; have HG5 := mkH hg5.below; clear hB5 hg5)
          | (go_at_call 7; refine (few_any _ x.r x.ga x.gc x.da x.dc x.ra x.rc HIN.out.rp).mono ?_; rintro e1 W4 ⟨g4, gc4, d4, dc4, r4, rc4, rfl, hr4, -, hb4⟩; have HR4 := mkH hr4; have HB4 := mkH hb4; clear hr4 hb4)
          | (refine Wy.wpList_ld (ty := 34) (x := .tmp 43) rfl rfl rfl HLD.out ?_))
        have hX6 : Bx (W5.setCell ⟨W4.heap.size, 4, none⟩ (.slice none 0 0)) W4.heap.size (Pv (rD x.r) g4 gc4 none 0 r4 rc4) 34 := HX5.out.set 4 _
        have hG6 : Below W4.heap.size W4 (W5.setCell ⟨W4.heap.size, 4, none⟩ (.slice none 0 0)) := HG5.out.setCell (Nat.le_refl _) _
        have hW6 : Below wr.heap.size wr (W5.setCell ⟨W4.heap.size, 4, none⟩ (.slice none 0 0)) := HB4.out.trans (hG6.mono HB4.out.size)
        generalize W5.setCell ⟨W4.heap.size, 4, none⟩ (.slice none 0 0) = W6 at *
        have HX6 := mkH hX6
        have HR6 := mkH (rD_mem (HR4.out.below hG6))
        have HT6 := mkH (HTr.out.below hW6)
        have HU6 := mkH (HUr.out.below hW6)
        have HB6 := mkH (HBr.out.trans (hW6.mono HBr.out.size))
        clear hX6 hG6 hW6 c4 f4 HX5 HG5 HR4 HB4 HTr HUr HLD
        have hbd : Below W6.heap.size W6 W6.drew := below_drew _
        have HTV := mkH (HT6.out.below hbd)
        have HUV := mkH (HU6.out.below hbd)
        have HBV := mkH (HB6.out.trans (hbd.mono HB6.out.size))
        have HXV := mkH HX6.out.drew
        have HRV := mkH (HR6.out.below hbd)
        obtain ⟨b', off', e', -, d1, d2, -, -⟩ := atA (HRA.out.below HBV.out) HX.out
        injection e' with e'; injection e' with e1' e2'; subst e1' e2'
        refine Rg.region_G hmx 20 (fun W => W.cell? ⟨b, off + k * 10 + 1, none⟩ = some (.int .i64 x.cl) ∧ W.cell? ⟨b, off + k * 10 + 2, none⟩ = some (.int .i64 x.nu) ∧ (loadVar 34 ⟨W4.heap.size, 0, none⟩).run Tryz.prog W = .ok (.agg (Pv (rD x.r) g4 gc4 none 0 r4 rc4)) W) ⟨d1, d2, load_pv HXV.out⟩ (fun hHeld => ?_)
        clear hbd d1 d2
        generalize W6.drew = V0 at *
        refine Rg.anyG_pure (i := 0) (oi := { dst := some 47, op := _, type := _, pos := _, after := _, guard := _ }) (v := ?_) rfl (by kernel_rfl) (by kernel_rfl) (by kernel_rfl) (by rfl) (fun _ _ _ h => h) (Or.inl ⟨by rfl, ?_⟩) (fun _ => by assumption) ?_
        rotate_left
        · (intro W hSw; (try dsimp only at hSw); go_simp; try (with_reducible rfl))
        try simp only [Act.put, List.setIfInBounds_toArray, List.set_cons_zero, List.set_cons_succ]
        refine Rg.anyG_pure (i := 1) (oi := { dst := some 48, op := _, type := _, pos := _, after := _, guard := _ }) (v := ?_) rfl (by kernel_rfl) (by kernel_rfl) (by kernel_rfl) (by rfl) (fun _ _ _ h => h) (Or.inl ⟨by rfl, ?_⟩) (fun _ => by assumption) ?_
        rotate_left
        · (intro W hSw; (try dsimp only at hSw); go_simp; try (with_reducible rfl))
        try simp only [Act.put, List.setIfInBounds_toArray, List.set_cons_zero, List.set_cons_succ]
        refine Rg.anyG_pure (i := 2) (oi := { dst := some 49, op := _, type := _, pos := _, after := _, guard := _ }) (v := ?_) rfl (by kernel_rfl) (by kernel_rfl) (by kernel_rfl) (by rfl) (fun _ _ _ h => h) (Or.inl ⟨by rfl, ?_⟩) (fun _ => by assumption) ?_
        rotate_left
        · (intro W hSw; (try dsimp only at hSw); go_simp; try (with_reducible rfl))
        try simp only [Act.put, List.setIfInBounds_toArray, List.set_cons_zero, List.set_cons_succ]
        refine Rg.anyG_pure (i := 3) (oi := { dst := some 50, op := _, type := _, pos := _, after := _, guard := _ }) (v := ?_) rfl (by kernel_rfl) (by kernel_rfl) (by kernel_rfl) (by rfl) (fun _ _ _ h => h) (Or.inl ⟨by rfl, ?_⟩) (fun _ => by assumption) ?_
        rotate_left
        · (intro W hSw; (try dsimp only at hSw); go_simp; try (with_reducible rfl))
        try simp only [Act.put, List.setIfInBounds_toArray, List.set_cons_zero, List.set_cons_succ]
        refine Rg.anyG_pure (i := 4) (oi := { dst := some 51, op := _, type := _, pos := _, after := _, guard := _ }) (v := ?_) rfl (by kernel_rfl) (by kernel_rfl) (by kernel_rfl) (by rfl) (fun _ _ _ h => h) (Or.inl ⟨by rfl, ?_⟩) (fun _ => by assumption) ?_
        rotate_left
        · (intro W hSw; (try dsimp only at hSw); go_simp; try (with_reducible rfl))
        try simp only [Act.put, List.setIfInBounds_toArray, List.set_cons_zero, List.set_cons_succ]
        refine Rg.anyG_take (i := 5) (oi := { dst := some 52, op := _, type := _, pos := _, after := _, guard := _ }) (v := ?_) rfl (by kernel_rfl) (by kernel_rfl) (by kernel_rfl) [6, 7, 8, 9, 20] (by kernel_rfl) (fun _ _ _ h => h) (Or.inl ⟨by rfl, ?_⟩) (by assumption) ?_
        rotate_left
        · (intro W hSw; (try dsimp only at hSw); go_simp; try (with_reducible rfl))
        try simp only [Act.put, List.setIfInBounds_toArray, List.set_cons_zero, List.set_cons_succ]
        refine Rg.anyG_pure (i := 6) (oi := { dst := some 53, op := _, type := _, pos := _, after := _, guard := _ }) (v := .int .i64 (x.cl.tmod 6)) rfl (by kernel_rfl) (by kernel_rfl) (by kernel_rfl) (by rfl) (fun _ _ _ h => h) (Or.inl ⟨by rfl, ?_⟩) (fun _ => by assumption) ?_
        · (intro W hSw; (try dsimp only at hSw); go_simp; try (with_reducible rfl))
        try simp only [Act.put, List.setIfInBounds_toArray, List.set_cons_zero, List.set_cons_succ]
        refine Rg.anyG_pure (i := 7) (oi := { dst := some 54, op := _, type := _, pos := _, after := _, guard := _ }) (v := .int .i64 (wrap64 (x.cl.tmod 6 + 6))) rfl (by kernel_rfl) (by kernel_rfl) (by kernel_rfl) (by rfl) (fun _ _ _ h => h) (Or.inl ⟨by rfl, ?_⟩) (fun _ => by assumption) ?_
        · (intro W hSw; (try dsimp only at hSw); go_simp; first | (with_reducible rfl) | exact wrap_is _)
        try simp only [Act.put, List.setIfInBounds_toArray, List.set_cons_zero, List.set_cons_succ]
        refine Rg.anyG_pure (i := 8) (oi := { dst := some 55, op := _, type := _, pos := _, after := _, guard := _ }) (v := .int .i64 ((wrap64 (x.cl.tmod 6 + 6)).tmod 6)) rfl (by kernel_rfl) (by kernel_rfl) (by kernel_rfl) (by rfl) (fun _ _ _ h => h) (Or.inl ⟨by rfl, ?_⟩) (fun _ => by assumption) ?_
        · (intro W hSw; (try dsimp only at hSw); go_simp; try (with_reducible rfl))
        try simp only [Act.put, List.setIfInBounds_toArray, List.set_cons_zero, List.set_cons_succ]
        refine Rg.anyG_pure (i := 9) (oi := { dst := some 56, op := _, type := _, pos := _, after := _, guard := _ }) (v := .int .i64 c) rfl (by kernel_rfl) (by kernel_rfl) (by kernel_rfl) (by rfl) (fun _ _ _ h => h) (Or.inl ⟨by rfl, ?_⟩) (fun _ => by assumption) ?_
        · (intro W hSw; (try dsimp only at hSw); go_simp; exact (wrap_is _).trans hc)
        try simp only [Act.put, List.setIfInBounds_toArray, List.set_cons_zero, List.set_cons_succ]
        refine Rg.anyG_pure (i := 10) (oi := { dst := some 57, op := _, type := _, pos := _, after := _, guard := _ }) (v := ?_) rfl (by kernel_rfl) (by kernel_rfl) (by kernel_rfl) (by rfl) (fun _ _ _ h => h) (Or.inl ⟨by rfl, ?_⟩) (fun _ => by assumption) ?_
        rotate_left
        · (intro W hSw; (try dsimp only at hSw); go_simp; try (with_reducible rfl))
        try simp only [Act.put, List.setIfInBounds_toArray, List.set_cons_zero, List.set_cons_succ]
        refine Rg.anyG_pure (i := 11) (oi := { dst := some 58, op := _, type := _, pos := _, after := _, guard := _ }) (v := ?_) rfl (by kernel_rfl) (by kernel_rfl) (by kernel_rfl) (by rfl) (fun _ _ _ h => h) (Or.inl ⟨by rfl, ?_⟩) (fun _ => by assumption) ?_
        rotate_left
        · (intro W hSw; (try dsimp only at hSw); go_simp; try (with_reducible rfl))
        try simp only [Act.put, List.setIfInBounds_toArray, List.set_cons_zero, List.set_cons_succ]
        refine Rg.anyG_pure (i := 12) (oi := { dst := some 59, op := _, type := _, pos := _, after := _, guard := _ }) (v := ?_) rfl (by kernel_rfl) (by kernel_rfl) (by kernel_rfl) (by rfl) (fun _ _ _ h => h) (Or.inl ⟨by rfl, ?_⟩) (fun _ => by assumption) ?_
        rotate_left
        · (intro W hSw; (try dsimp only at hSw); go_simp; try (with_reducible rfl))
        try simp only [Act.put, List.setIfInBounds_toArray, List.set_cons_zero, List.set_cons_succ]
        refine Rg.anyG_pure (i := 13) (oi := { dst := some 60, op := _, type := _, pos := _, after := _, guard := _ }) (v := ?_) rfl (by kernel_rfl) (by kernel_rfl) (by kernel_rfl) (by rfl) (fun _ _ _ h => h) (Or.inl ⟨by rfl, ?_⟩) (fun _ => by assumption) ?_
        rotate_left
        · (intro W hSw; (try dsimp only at hSw); go_simp; try (with_reducible rfl))
        try simp only [Act.put, List.setIfInBounds_toArray, List.set_cons_zero, List.set_cons_succ]
        refine Rg.anyG_take (i := 14) (oi := { dst := some 61, op := _, type := _, pos := _, after := _, guard := _ }) (v := ?_) rfl (by kernel_rfl) (by kernel_rfl) (by kernel_rfl) [15, 16, 17, 18, 20] (by kernel_rfl) (fun _ _ _ h => h) (Or.inl ⟨by rfl, ?_⟩) (by assumption) ?_
        rotate_left
        · (intro W hSw; (try dsimp only at hSw); go_simp; try (with_reducible rfl))
        try simp only [Act.put, List.setIfInBounds_toArray, List.set_cons_zero, List.set_cons_succ]
        refine Rg.anyG_pure (i := 15) (oi := { dst := some 62, op := _, type := _, pos := _, after := _, guard := _ }) (v := .int .i64 (x.nu.tmod 9)) rfl (by kernel_rfl) (by kernel_rfl) (by kernel_rfl) (by rfl) (fun _ _ _ h => h) (Or.inl ⟨by rfl, ?_⟩) (fun _ => by assumption) ?_
        · (intro W hSw; (try dsimp only at hSw); go_simp; try (with_reducible rfl))
        try simp only [Act.put, List.setIfInBounds_toArray, List.set_cons_zero, List.set_cons_succ]
        refine Rg.anyG_pure (i := 16) (oi := { dst := some 63, op := _, type := _, pos := _, after := _, guard := _ }) (v := .int .i64 (wrap64 (x.nu.tmod 9 + 9))) rfl (by kernel_rfl) (by kernel_rfl) (by kernel_rfl) (by rfl) (fun _ _ _ h => h) (Or.inl ⟨by rfl, ?_⟩) (fun _ => by assumption) ?_
        · (intro W hSw; (try dsimp only at hSw); go_simp; first | (with_reducible rfl) | exact wrap_is _)
        try simp only [Act.put, List.setIfInBounds_toArray, List.set_cons_zero, List.set_cons_succ]
        refine Rg.anyG_pure (i := 17) (oi := { dst := some 64, op := _, type := _, pos := _, after := _, guard := _ }) (v := .int .i64 ((wrap64 (x.nu.tmod 9 + 9)).tmod 9)) rfl (by kernel_rfl) (by kernel_rfl) (by kernel_rfl) (by rfl) (fun _ _ _ h => h) (Or.inl ⟨by rfl, ?_⟩) (fun _ => by assumption) ?_
        · (intro W hSw; (try dsimp only at hSw); go_simp; try (with_reducible rfl))
        try simp only [Act.put, List.setIfInBounds_toArray, List.set_cons_zero, List.set_cons_succ]
        refine Rg.anyG_pure (i := 18) (oi := { dst := some 65, op := _, type := _, pos := _, after := _, guard := _ }) (v := .int .i64 n) rfl (by kernel_rfl) (by kernel_rfl) (by kernel_rfl) (by rfl) (fun _ _ _ h => h) (Or.inl ⟨by rfl, ?_⟩) (fun _ => by assumption) ?_
        · (intro W hSw; (try dsimp only at hSw); go_simp; exact (wrap_is _).trans hn)
        try simp only [Act.put, List.setIfInBounds_toArray, List.set_cons_zero, List.set_cons_succ]
        refine Rg.anyG_take (i := 19) (oi := { dst := some 66, op := _, type := _, pos := _, after := _, guard := _ }) (v := .agg (Pv (rD x.r) g4 gc4 none 0 r4 rc4)) rfl (by kernel_rfl) (by kernel_rfl) (by kernel_rfl) [20] (by kernel_rfl) (fun _ _ _ h => h) (Or.inl ⟨by rfl, ?_⟩) (by assumption) ?_
        · (intro W hSw; (try dsimp only at hSw); exact Wx.run_ld (x := .tmp 8) rfl rfl hSw.2.2)
        try simp only [Act.put, List.setIfInBounds_toArray, List.set_cons_zero, List.set_cons_succ]
        refine Rg.anyG_ready (rs := [20]) (by kernel_rfl) (by simp) ?_
        refine Rg.AllG.last (o := { dst := some 67, op := _, type := _, pos := _, after := _, guard := _ }) rfl (by kernel_rfl) (fun K hK => ?_)
        go_simp
        refine (note_any HTV.out c n (rD x.r) g4 gc4 none 0 r4 rc4 HRV.out (rD_cnt _)).mono ?_
        rintro e1 V1 ⟨rfl, ⟨F1, ht1, -⟩, hf1⟩
        have HTW := mkH (ht1.mono (fun _ _ => trivial))
        have HUW := mkH (Tb.other HUV.out hf1 (Tb.bare HTV.out) (by have := hM2'.out; omega))
        have HBW := mkH (HBV.out.trans (hf1.below (fun k hk => by have := hM2'.out; omega) HBV.out.size))
        clear ht1 hf1
        go_wp2_with fail
        refine hK.out _ _ ?_
        clear hK K
        try simp only [Act.put, List.setIfInBounds_toArray, List.set_cons_zero, List.set_cons_succ]
        refine Rg.anyG_done (by kernel_rfl) ?_ _
        go_wp2_with fail
        have HIW := mkH (HIr.out.note (c := c) (n := n) (r := rD x.r) ⟨hc5, hc6, hn5, hn6⟩ rfl)
        refine ⟨⟨k + 1, noteL l1 c n (rD x.r), by omega, by omega, by go_num, HTW, HUW, HIW, HBW⟩, ?_⟩
        simp [intOf]; omega
      · have hc3 : (¬ (k : Int) < (A.length : Int)) ∨ ((k : Int) < (A.length : Int) ∧ ¬ (k : Int) < 20) := by omega
        rcases hc3 with c1 | ⟨c1, c2⟩
        · go_wp2_with fail
          go_meet
          case rel => exact ⟨l1, HTr, HUr, HIr, HBr⟩
        · go_wp2_with fail
          go_meet
          case rel => exact ⟨l1, HTr, HUr, HIr, HBr⟩
  case rest =>
    obtain ⟨l1, HT3, HU3, HI1, HB3⟩ := hcut
    clear HT2 HU2 HB2
    go_upto_block 2 with fail
    go_cut [9] (fun _ WW => ∃ l2, Hid (Tt WW T1 w.heap.size l1) ∧ Hid (Tt WW T2 M2 l2) ∧ Hid (In6 l2) ∧ Hid (Below w.heap.size w WW))
    case first =>
      go_wp2_with fail
      go_loopw [9] (fun i wr => ∃ k : Nat, ∃ l2, k ≤ B.length ∧ k ≤ 20 ∧ i = .int .i64 (k : Int) ∧ Hid (Tt wr T1 w.heap.size l1) ∧ Hid (Tt wr T2 M2 l2) ∧ Hid (In6 l2) ∧ Hid (Below w.heap.size w wr)) (fun i _ => 20 - (intOf i).toNat)
      case atStart => exact ⟨0, [], Nat.zero_le _, Nat.zero_le _, rfl, HT3, HU3, mkH In6.nil, HB3⟩
      case round =>
        obtain ⟨k, l2, hk, hk2, rfl, HTr, HUr, HIr, HBr⟩ := hrel
        by_cases hlt : k < B.length ∧ k < 20
        · obtain ⟨hlt, hlt2⟩ := hlt
          have c2 : (k : Int) < 20 := by omega
          obtain ⟨x, hx⟩ := some_of hlt
          have HIN := mkH ((HIB.out x (List.mem_of_getElem? hx)).below HBr.out)
          obtain ⟨b, off, hao, -, -, -, -, hld⟩ := atA (HRB.out.below HBr.out) hx
          obtain ⟨c, hc, hc5, hc6⟩ := mod_in x.cl 6 (by decide) (by decide)
          obtain ⟨n, hn, hn5, hn6⟩ := mod_in x.nu 9 (by decide) (by decide)
          have HLD := mkH hld
          have HX := mkH hx
          subst hao
          clear hx hld
          go_wp2_with (first
            | (refine wpList_stn rfl (ty := 34) (x := .tmp 10) (y := .tmp 83) (cs := Pv (fR x.r) g4 gc4 d4 dc4 r4 rc4) (zs := Sw.zP6) rfl rfl rfl (Sw.infoPv _ _ _ _ _ _ _) (Sw.sizePv _ _ _ _ _ _ _) (Pv_one _ _ _ _ _ _ _) (fun W5 hB5 hg5 => ?_); have c4 : W5.cell? ⟨W4.heap.size, 4, none⟩ = some (.slice d4 (fR x.r).data.length dc4) := hB5.cell 4; have f4 := hB5.frozen 4; have HX5 := mkH hB5; have HG5 := mkH hg5.below; clear hB5 hg5)
            | (go_at_call 7; refine (few_any _ x.r x.ga x.gc x.da x.dc x.ra x.rc HIN.out.rp).mono ?_; rintro e1 W4 ⟨g4, gc4, d4, dc4, r4, rc4, rfl, hr4, -, hb4⟩; have HR4 := mkH hr4; have HB4 := mkH hb4; clear hr4 hb4)
            | (refine Wy.wpList_ld (ty := 34) (x := .tmp 81) rfl rfl rfl HLD.out ?_))
          have hX6 : Bx (W5.setCell ⟨W4.heap.size, 4, none⟩ (.slice none 0 0)) W4.heap.size (Pv (rD x.r) g4 gc4 none 0 r4 rc4) 34 := HX5.out.set 4 _
          have hG6 : Below W4.heap.size W4 (W5.setCell ⟨W4.heap.size, 4, none⟩ (.slice none 0 0)) := HG5.out.setCell (Nat.le_refl _) _
          have hW6 : Below wr.heap.size wr (W5.setCell ⟨W4.heap.size, 4, none⟩ (.slice none 0 0)) := HB4.out.trans (hG6.mono HB4.out.size)
          generalize W5.setCell ⟨W4.heap.size, 4, none⟩ (.slice none 0 0) = W6 at *
          have HX6 := mkH hX6
          have HR6 := mkH (rD_mem (HR4.out.below hG6))
          have HT6 := mkH (HTr.out.below hW6)
          have HU6 := mkH (HUr.out.below hW6)
          have HB6 := mkH (HBr.out.trans (hW6.mono HBr.out.size))
          clear hX6 hG6 hW6 c4 f4 HX5 HG5 HR4 HB4 HTr HUr HLD
          have hbd : Below W6.heap.size W6 W6.drew := below_drew _
          have HTV := mkH (HT6.out.below hbd)
          have HUV := mkH (HU6.out.below hbd)
          have HBV := mkH (HB6.out.trans (hbd.mono HB6.out.size))
          have HXV := mkH HX6.out.drew
          have HRV := mkH (HR6.out.below hbd)
          obtain ⟨b', off', e', -, d1, d2, -, -⟩ := atA (HRB.out.below HBV.out) HX.out
          injection e' with e'; injection e' with e1' e2'; subst e1' e2'
          refine Rg.region_G hmx 20 (fun W => W.cell? ⟨b, off + k * 10 + 1, none⟩ = some (.int .i64 x.cl) ∧ W.cell? ⟨b, off + k * 10 + 2, none⟩ = some (.int .i64 x.nu) ∧ (loadVar 34 ⟨W4.heap.size, 0, none⟩).run Tryz.prog W = .ok (.agg (Pv (rD x.r) g4 gc4 none 0 r4 rc4)) W) ⟨d1, d2, load_pv HXV.out⟩ (fun hHeld => ?_)
          clear hbd d1 d2
          generalize W6.drew = V0 at *
          refine Rg.anyG_pure (i := 0) (oi := { dst := some 85, op := _, type := _, pos := _, after := _, guard := _ }) (v := ?_) rfl (by kernel_rfl) (by kernel_rfl) (by kernel_rfl) (by rfl) (fun _ _ _ h => h) (Or.inl ⟨by rfl, ?_⟩) (fun _ => by assumption) ?_
          rotate_left
          · (intro W hSw; (try dsimp only at hSw); go_simp; try (with_reducible rfl))
          try simp only [Act.put, List.setIfInBounds_toArray, List.set_cons_zero, List.set_cons_succ]
          refine Rg.anyG_pure (i := 1) (oi := { dst := some 86, op := _, type := _, pos := _, after := _, guard := _ }) (v := ?_) rfl (by kernel_rfl) (by kernel_rfl) (by kernel_rfl) (by rfl) (fun _ _ _ h => h) (Or.inl ⟨by rfl, ?_⟩) (fun _ => by assumption) ?_
          rotate_left
          · (intro W hSw; (try dsimp only at hSw); go_simp; try (with_reducible rfl))
          try simp only [Act.put, List.setIfInBounds_toArray, List.set_cons_zero, List.set_cons_succ]
          refine Rg.anyG_pure (i := 2) (oi := { dst := some 87, op := _, type := _, pos := _, after := _, guard := _ }) (v := ?_) rfl (by kernel_rfl) (by kernel_rfl) (by kernel_rfl) (by rfl) (fun _ _ _ h => h) (Or.inl ⟨by rfl, ?_⟩) (fun _ => by assumption) ?_
          rotate_left
          · (intro W hSw; (try dsimp only at hSw); go_simp; try (with_reducible rfl))
          try simp only [Act.put, List.setIfInBounds_toArray, List.set_cons_zero, List.set_cons_succ]
          refine Rg.anyG_pure (i := 3) (oi := { dst := some 88, op := _, type := _, pos := _, after := _, guard := _ }) (v := ?_) rfl (by kernel_rfl) (by kernel_rfl) (by kernel_rfl) (by rfl) (fun _ _ _ h => h) (Or.inl ⟨by rfl, ?_⟩) (fun _ => by assumption) ?_
          rotate_left
          · (intro W hSw; (try dsimp only at hSw); go_simp; try (with_reducible rfl))
          try simp only [Act.put, List.setIfInBounds_toArray, List.set_cons_zero, List.set_cons_succ]
          refine Rg.anyG_pure (i := 4) (oi := { dst := some 89, op := _, type := _, pos := _, after := _, guard := _ }) (v := ?_) rfl (by kernel_rfl) (by kernel_rfl) (by kernel_rfl) (by rfl) (fun _ _ _ h => h) (Or.inl ⟨by rfl, ?_⟩) (fun _ => by assumption) ?_
          rotate_left
          · (intro W hSw; (try dsimp only at hSw); go_simp; try (with_reducible rfl))
          try simp only [Act.put, List.setIfInBounds_toArray, List.set_cons_zero, List.set_cons_succ]
          refine Rg.anyG_take (i := 5) (oi := { dst := some 90, op := _, type := _, pos := _, after := _, guard := _ }) (v := ?_) rfl (by kernel_rfl) (by kernel_rfl) (by kernel_rfl) [6, 7, 8, 9, 20] (by kernel_rfl) (fun _ _ _ h => h) (Or.inl ⟨by rfl, ?_⟩) (by assumption) ?_
          rotate_left
          · (intro W hSw; (try dsimp only at hSw); go_simp; try (with_reducible rfl))
          try simp only [Act.put, List.setIfInBounds_toArray, List.set_cons_zero, List.set_cons_succ]
          refine Rg.anyG_pure (i := 6) (oi := { dst := some 91, op := _, type := _, pos := _, after := _, guard := _ }) (v := .int .i64 (x.cl.tmod 6)) rfl (by kernel_rfl) (by kernel_rfl) (by kernel_rfl) (by rfl) (fun _ _ _ h => h) (Or.inl ⟨by rfl, ?_⟩) (fun _ => by assumption) ?_
          · (intro W hSw; (try dsimp only at hSw); go_simp; try (with_reducible rfl))
          try simp only [Act.put, List.setIfInBounds_toArray, List.set_cons_zero, List.set_cons_succ]
          refine Rg.anyG_pure (i := 7) (oi := { dst := some 92, op := _, type := _, pos := _, after := _, guard := _ }) (v := .int .i64 (wrap64 (x.cl.tmod 6 + 6))) rfl (by kernel_rfl) (by kernel_rfl) (by kernel_rfl) (by rfl) (fun _ _ _ h => h) (Or.inl ⟨by rfl, ?_⟩) (fun _ => by assumption) ?_
          · (intro W hSw; (try dsimp only at hSw); go_simp; first | (with_reducible rfl) | exact wrap_is _)
          try simp only [Act.put, List.setIfInBounds_toArray, List.set_cons_zero, List.set_cons_succ]
          refine Rg.anyG_pure (i := 8) (oi := { dst := some 93, op := _, type := _, pos := _, after := _, guard := _ }) (v := .int .i64 ((wrap64 (x.cl.tmod 6 + 6)).tmod 6)) rfl (by kernel_rfl) (by kernel_rfl) (by kernel_rfl) (by rfl) (fun _ _ _ h => h) (Or.inl ⟨by rfl, ?_⟩) (fun _ => by assumption) ?_
          · (intro W hSw; (try dsimp only at hSw); go_simp; try (with_reducible rfl))
          try simp only [Act.put, List.setIfInBounds_toArray, List.set_cons_zero, List.set_cons_succ]
          refine Rg.anyG_pure (i := 9) (oi := { dst := some 94, op := _, type := _, pos := _, after := _, guard := _ }) (v := .int .i64 c) rfl (by kernel_rfl) (by kernel_rfl) (by kernel_rfl) (by rfl) (fun _ _ _ h => h) (Or.inl ⟨by rfl, ?_⟩) (fun _ => by assumption) ?_
          · (intro W hSw; (try dsimp only at hSw); go_simp; exact (wrap_is _).trans hc)
          try simp only [Act.put, List.setIfInBounds_toArray, List.set_cons_zero, List.set_cons_succ]
          refine Rg.anyG_pure (i := 10) (oi := { dst := some 95, op := _, type := _, pos := _, after := _, guard := _ }) (v := ?_) rfl (by kernel_rfl) (by kernel_rfl) (by kernel_rfl) (by rfl) (fun _ _ _ h => h) (Or.inl ⟨by rfl, ?_⟩) (fun _ => by assumption) ?_
          rotate_left
          · (intro W hSw; (try dsimp only at hSw); go_simp; try (with_reducible rfl))
          try simp only [Act.put, List.setIfInBounds_toArray, List.set_cons_zero, List.set_cons_succ]
          refine Rg.anyG_pure (i := 11) (oi := { dst := some 96, op := _, type := _, pos := _, after := _, guard := _ }) (v := ?_) rfl (by kernel_rfl) (by kernel_rfl) (by kernel_rfl) (by rfl) (fun _ _ _ h => h) (Or.inl ⟨by rfl, ?_⟩) (fun _ => by assumption) ?_
          rotate_left
          · (intro W hSw; (try dsimp only at hSw); go_simp; try (with_reducible rfl))
          try simp only [Act.put, List.setIfInBounds_toArray, List.set_cons_zero, List.set_cons_succ]
          refine Rg.anyG_pure (i := 12) (oi := { dst := some 97, op := _, type := _, pos := _, after := _, guard := _ }) (v := ?_) rfl (by kernel_rfl) (by kernel_rfl) (by kernel_rfl) (by rfl) (fun _ _ _ h => h) (Or.inl ⟨by rfl, ?_⟩) (fun _ => by assumption) ?_
          rotate_left
          · (intro W hSw; (try dsimp only at hSw); go_simp; try (with_reducible rfl))
          try simp only [Act.put, List.setIfInBounds_toArray, List.set_cons_zero, List.set_cons_succ]
          refine Rg.anyG_pure (i := 13) (oi := { dst := some 98, op := _, type := _, pos := _, after := _, guard := _ }) (v := ?_) rfl (by kernel_rfl) (by kernel_rfl) (by kernel_rfl) (by rfl) (fun _ _ _ h => h) (Or.inl ⟨by rfl, ?_⟩) (fun _ => by assumption) ?_
          rotate_left
          · (intro W hSw; (try dsimp only at hSw); go_simp; try (with_reducible rfl))
          try simp only [Act.put, List.setIfInBounds_toArray, List.set_cons_zero, List.set_cons_succ]
          refine Rg.anyG_take (i := 14) (oi := { dst := some 99, op := _, type := _, pos := _, after := _, guard := _ }) (v := ?_) rfl (by kernel_rfl) (by kernel_rfl) (by kernel_rfl) [15, 16, 17, 18, 20] (by kernel_rfl) (fun _ _ _ h => h) (Or.inl ⟨by rfl, ?_⟩) (by assumption) ?_
          rotate_left
          · (intro W hSw; (try dsimp only at hSw); go_simp; try (with_reducible rfl))
          try simp only [Act.put, List.setIfInBounds_toArray, List.set_cons_zero, List.set_cons_succ]
          refine Rg.anyG_pure (i := 15) (oi := { dst := some 100, op := _, type := _, pos := _, after := _, guard := _ }) (v := .int .i64 (x.nu.tmod 9)) rfl (by kernel_rfl) (by kernel_rfl) (by kernel_rfl) (by rfl) (fun _ _ _ h => h) (Or.inl ⟨by rfl, ?_⟩) (fun _ => by assumption) ?_
          · (intro W hSw; (try dsimp only at hSw); go_simp; try (with_reducible rfl))
          try simp only [Act.put, List.setIfInBounds_toArray, List.set_cons_zero, List.set_cons_succ]
          refine Rg.anyG_pure (i := 16) (oi := { dst := some 101, op := _, type := _, pos := _, after := _, guard := _ }) (v := .int .i64 (wrap64 (x.nu.tmod 9 + 9))) rfl (by kernel_rfl) (by kernel_rfl) (by kernel_rfl) (by rfl) (fun _ _ _ h => h) (Or.inl ⟨by rfl, ?_⟩) (fun _ => by assumption) ?_
          · (intro W hSw; (try dsimp only at hSw); go_simp; first | (with_reducible rfl) | exact wrap_is _)
          try simp only [Act.put, List.setIfInBounds_toArray, List.set_cons_zero, List.set_cons_succ]
          refine Rg.anyG_pure (i := 17) (oi := { dst := some 102, op := _, type := _, pos := _, after := _, guard := _ }) (v := .int .i64 ((wrap64 (x.nu.tmod 9 + 9)).tmod 9)) rfl (by kernel_rfl) (by kernel_rfl) (by kernel_rfl) (by rfl) (fun _ _ _ h => h) (Or.inl ⟨by rfl, ?_⟩) (fun _ => by assumption) ?_
          · (intro W hSw; (try dsimp only at hSw); go_simp; try (with_reducible rfl))
          try simp only [Act.put, List.setIfInBounds_toArray, List.set_cons_zero, List.set_cons_succ]
          refine Rg.anyG_pure (i := 18) (oi := { dst := some 103, op := _, type := _, pos := _, after := _, guard := _ }) (v := .int .i64 n) rfl (by kernel_rfl) (by kernel_rfl) (by kernel_rfl) (by rfl) (fun _ _ _ h => h) (Or.inl ⟨by rfl, ?_⟩) (fun _ => by assumption) ?_
          · (intro W hSw; (try dsimp only at hSw); go_simp; exact (wrap_is _).trans hn)
          try simp only [Act.put, List.setIfInBounds_toArray, List.set_cons_zero, List.set_cons_succ]
          refine Rg.anyG_take (i := 19) (oi := { dst := some 104, op := _, type := _, pos := _, after := _, guard := _ }) (v := .agg (Pv (rD x.r) g4 gc4 none 0 r4 rc4)) rfl (by kernel_rfl) (by kernel_rfl) (by kernel_rfl) [20] (by kernel_rfl) (fun _ _ _ h => h) (Or.inl ⟨by rfl, ?_⟩) (by assumption) ?_
          · (intro W hSw; (try dsimp only at hSw); exact Wx.run_ld (x := .tmp 10) rfl rfl hSw.2.2)
          try simp only [Act.put, List.setIfInBounds_toArray, List.set_cons_zero, List.set_cons_succ]
          refine Rg.anyG_ready (rs := [20]) (by kernel_rfl) (by simp) ?_
          refine Rg.AllG.last (o := { dst := some 105, op := _, type := _, pos := _, after := _, guard := _ }) rfl (by kernel_rfl) (fun K hK => ?_)
          go_simp
          refine (note_any HUV.out c n (rD x.r) g4 gc4 none 0 r4 rc4 HRV.out (rD_cnt _)).mono ?_
          rintro e1 V1 ⟨rfl, ⟨F1, ht1, -⟩, hf1⟩
          have HUW := mkH (ht1.mono (fun _ _ => trivial))
          have HTW := mkH (Tb.other HTV.out hf1 (Tb.bare HUV.out) (by have := hM2'.out; omega))
          have HBW := mkH (HBV.out.trans (hf1.below (fun k hk => by have := hM2'.out; omega) HBV.out.size))
          clear ht1 hf1
          go_wp2_with fail
          refine hK.out _ _ ?_
          clear hK K
          try simp only [Act.put, List.setIfInBounds_toArray, List.set_cons_zero, List.set_cons_succ]
          refine Rg.anyG_done (by kernel_rfl) ?_ _
          go_wp2_with fail
          have HIW := mkH (HIr.out.note (c := c) (n := n) (r := rD x.r) ⟨hc5, hc6, hn5, hn6⟩ rfl)
          refine ⟨⟨k + 1, noteL l2 c n (rD x.r), by omega, by omega, by go_num, HTW, HUW, HIW, HBW⟩, ?_⟩
          simp [intOf]; omega
        · have hc3 : (¬ (k : Int) < (B.length : Int)) ∨ ((k : Int) < (B.length : Int) ∧ ¬ (k : Int) < 20) := by omega
          rcases hc3 with c1 | ⟨c1, c2⟩
          · go_wp2_with fail
            go_meet
            case rel => exact ⟨l2, HTr, HUr, HIr, HBr⟩
          · go_wp2_with fail
            go_meet
            case rel => exact ⟨l2, HTr, HUr, HIr, HBr⟩
    case rest =>
      obtain ⟨l2, HT4, HU4, HI2, HB4⟩ := hcut
      clear HT3 HU3 HB3
      obtain ⟨hs1, hl1, hn1⟩ := Tb.nums HT4.out
      obtain ⟨hs2, hl2, hn2⟩ := Tb.nums HU4.out
      have HN2 := mkH hn2
      have hm2lt := Tb.lt HU4.out
      have hm1lt := Tb.lt HT4.out
      have HD2 := mkH (dump_ok hn2 hl2)
      have HM6 := mkH (HI1.out.mrg (l2.filter (okW fD)) (fun e he => HI2.out.r e (List.mem_filter.1 he).1))
      obtain ⟨M, hM⟩ : ∃ M, mrg l1 (l2.filter (okW fD)) = M := ⟨_, rfl⟩
      have HM := mkH hM
      have HSAY : Hid (∀ c, (∀ e, atX E.k l2 c = some e → checkR e.r = 0 → (lastN M c = max (lastN l1 c) e.n ∧ (lastN l1 c < e.n → atX E.k M c = some e))) ∧ (atX E.k l2 c = none → lastN M c = lastN l1 c)) := mkH (fun c => by rw [← hM]; exact merge_says HI1.out HI2.out c)
      have HAG : Hid (mrg M (l2.filter (okW fD)) = M ∧ mrg M (M.filter (okW fD)) = M) := mkH (by rw [← hM]; exact merge_again HI1.out HI2.out)
      have HIM : Hid (In6 M) := mkH (by rw [← hM]; exact HM6.out.1)
      clear hs1 hs2 hn1 hn2 hM
      go_upto_block 4 with (first
        | (go_at_call 10; refine (merge_any HT6.out ao6 cap6 (texts fD l2) HR6.out HD2.out.1 HD2.out.2.1 (fun es hes => by rw [HD2.out.2.2] at hes; cases hes; exact HM6.out.2)).mono ?_; intro e1 W7 hmg; obtain ⟨rfl, ht7, hf7⟩ := mgP_dump HN2.out hl2 hmg; rw [HM.out] at ht7; have HT7 := mkH ht7; have HU7 := mkH (Tb.other HU6.out hf7 (Tb.bare HT6.out) (by have := hM2'.out; omega)); have HV7 := mkH (Tb.other HV6.out hf7 (Tb.bare HT6.out) (by omega)); have HB7 := mkH (HB6.out.trans (hf7.below (fun k hk => Nat.le_of_eq hk.symm) HB6.out.size)); clear hmg ht7 hf7)
        | (go_at_call 21; refine (dump_any HU5.out).mono ?_; intro e1 W6 hdu; obtain ⟨ao6, cap6, rfl, -, -, hr6, hb6⟩ := (show DuP W5 (texts fD l2) e1 W6 from hdu); have HR6 := mkH hr6; have HT6 := mkH (HT5.out.below hb6); have HU6 := mkH (HU5.out.below hb6); have HV6 := mkH (HV5.out.below hb6); have HB6 := mkH (HB5.out.trans (hb6.mono HB5.out.size)); clear hdu hr6 hb6)
        | (go_at_call 12; refine (copy_any HT4.out).mono ?_; rintro e1 W5 ⟨T3, rfl, hT3, hv5, hb5⟩; have HV5 := mkH hv5; have HT5 := mkH (HT4.out.below hb5); have HU5 := mkH (HU4.out.below hb5); have HB5 := mkH (HB4.out.trans (hb5.mono HB4.out.size)); clear hv5 hb5))
      obtain ⟨M3, hM3⟩ : ∃ M3, wc.heap.size = M3 := ⟨_, rfl⟩
      rw [hM3] at HV7
      clear HT4 HU4 HB4 HT5 HU5 HV5 HB5 HT6 HU6 HV6 HB6 HR6
      go_cut [12] (fun _ WW => Hid (Tt WW T1 w.heap.size M) ∧ Hid (Tt WW T2 M2 l2) ∧ Hid (Tt WW T3 M3 l1) ∧ Hid (Below w.heap.size w WW))
      case first =>
        go_wp2_with fail
        go_loopw [12] (fun i wr => ∃ c : Nat, 1 ≤ c ∧ c ≤ 7 ∧ i = .int .i64 (c : Int) ∧ Hid (Tt wr T1 w.heap.size M) ∧ Hid (Tt wr T2 M2 l2) ∧ Hid (Tt wr T3 M3 l1) ∧ Hid (Below w.heap.size w wr)) (fun i _ => 7 - (intOf i).toNat)
        case atStart => exact ⟨1, Nat.le_refl _, by omega, rfl, HT7, HU7, HV7, HB7⟩
        case round =>
          obtain ⟨c, hc1, hc7, rfl, HTr, HUr, HVr, HBr⟩ := hrel
          clear HT7 HU7 HV7 HB7
          rcases Nat.lt_or_ge c 7 with hcl | hcl
          · have hcw : (Lit.int .i64 (c : Int)).wf = true := wf_int (by omega) (by omega)
            have hc6 : (c : Int) ≤ 6 := by omega
            obtain ⟨x, hx⟩ : ∃ x, lastN l1 (c : Int) = x := ⟨_, rfl⟩
            obtain ⟨y, hy⟩ : ∃ y, lastN l2 (c : Int) = y := ⟨_, rfl⟩
            have hx0 : 0 ≤ x ∧ x ≤ 9 := by
              rw [← hx]
              unfold lastN
              cases h : atX E.k l1 (c : Int) with
              | none => simp
              | some e => have := HI1.out.r e (atX_mem h).1; simp only; omega
            obtain ⟨hx1, hx2⟩ := hx0
            have hsay := HSAY.out (c : Int)
            rw [hx] at hsay
            have HXx := mkH hx
            have HYy := mkH hy
            cases hat : atX E.k l2 (c : Int) with
            | none =>
              have hy0 : y = 0 := by rw [← hy]; unfold lastN; rw [hat]
              subst hy0
              obtain ⟨my, hmy⟩ : ∃ my : Int, my = 1 := ⟨_, rfl⟩
              have hmx1 : (if (1 : Int) < 0 then (0 : Int) else 1) = my := by rw [hmy]; decide
              have hmx2 : max (1 : Int) 0 = my := by rw [hmy]; decide
              have hmx3 : (if x < 0 then (0 : Int) else x) = x := by rw [if_neg (by omega)]
              have hmx4 : max x 0 = x := by omega
              have HLM : Hid (lastN M (c : Int) = x) := mkH (hsay.2 hat)
              have HE1 : Hid (lookE l2 (c : Int) my = 0) := mkH (by unfold lookE; rw [hy, hmy, if_neg (by unfold num; omega), if_neg (by decide), if_neg (by decide)])
              have HK1 : Hid (lookK l2 (c : Int) my = false) := mkH (by unfold lookK; rw [hy, hmy]; simp)
              have HR1 : Hid (lookR l2 (c : Int) my = Rp.none) := mkH (by unfold lookR; rw [HK1.out]; rfl)
              have HCE : Hid (Cnt Rp.none) := mkH (Sw.cnt_nil 0 0 0)
              have HCK : Hid (((checkR Rp.none : Nat) : Int) = 0) := mkH (by rw [check_none]; rfl)
              clear hsay hat hx hy hmy
              go_wp2_with (first
                | (have hq := q3; clear hq; go_at_call 16; refine (last_any HT10.out (c : Int) hcw).mono ?_; rintro e1 w1 ⟨rfl, h⟩; rw [HLM.out]; have h2 := h.symm; clear h; subst h2)
                | (go_at_call 25; refine (rcheckReply_any _ Rp.none g8 gc8 d8 dc8 r8 rc8 HR9.out HCE.out).mono ?_; rintro e1 W10 ⟨rfl, hg10⟩; rw [HCK.out]; have q3 := trivial; have HP10 := mkH (bx_bel HP9.out hg10.below); have HR10 := mkH (HR9.out.below hg10.below); have HT10 := mkH (HT9.out.below hg10.below); have HU10 := mkH (HU9.out.below hg10.below); have HV10 := mkH (HV9.out.below hg10.below); have HB10 := mkH (HB9.out.trans (hg10.below.mono HB9.out.size)); clear hg10)
                | (refine Wy.wpList_ld (ty := 34) (x := .tmp 15) rfl rfl rfl (load_pv HP9.out) ?_)
                | (refine wpList_stn rfl (ty := 34) (x := .tmp 15) (y := .tmp 129) (cs := Pv Rp.none g8 gc8 d8 dc8 r8 rc8) (zs := Sw.zP6) rfl rfl rfl (Sw.infoPv _ _ _ _ _ _ _) (Sw.sizePv _ _ _ _ _ _ _) (Pv_one _ _ _ _ _ _ _) (fun W9 hB hg => ?_); have HP9 := mkH hB; have HR9 := mkH (HR8.out.below hg.below); have HT9 := mkH (HT8.out.below hg.below); have HU9 := mkH (HU8.out.below hg.below); have HV9 := mkH (HV8.out.below hg.below); have HB9 := mkH (HB8.out.trans (hg.below.mono HB8.out.size)); clear hB hg)
                | (have hq := q2; clear hq; go_at_call 13; refine (look_any HUr.out (c : Int) my).mono ?_; rintro e1 W8 ⟨g8, gc8, d8, dc8, r8, rc8, rfl, hr8, -, -, hb8⟩; rw [HE1.out, HK1.out, HR1.out]; rw [HR1.out] at hr8; have HR8 := mkH hr8; have HT8 := mkH (HTr.out.below hb8); have HU8 := mkH (HUr.out.below hb8); have HV8 := mkH (HVr.out.below hb8); have HB8 := mkH (HBr.out.trans (hb8.mono HBr.out.size)); clear q2 hr8 hb8)
                | (have hq := q1; clear hq; go_at_call 16; refine (last_any HUr.out (c : Int) hcw).mono ?_; rintro e1 w1 ⟨rfl, h⟩; rw [HYy.out]; have h2 := h.symm; clear h; subst h2; clear q1; have q2 := trivial)
                | (go_at_call 16; refine (last_any HVr.out (c : Int) hcw).mono ?_; rintro e1 w1 ⟨rfl, h⟩; rw [HXx.out]; have h2 := h.symm; clear h; subst h2; have q1 := trivial))
              refine ⟨⟨c + 1, by omega, by omega, by go_num, HT10, HU10, HV10, HB10⟩, ?_⟩
              simp [intOf]; omega
            | some e =>
              have hyn : y = e.n := by rw [← hy]; exact lastN_of hat
              have heb := HI2.out.r e (atX_mem hat).1
              have hce := (HN2.out e (atX_mem hat).1).2.2
              have hy1 : 1 ≤ y := by omega
              have hy9 : y ≤ 9 := by omega
              obtain ⟨my, hmy⟩ : ∃ my : Int, my = y := ⟨_, rfl⟩
              have hmx1 : (if (1 : Int) < y then y else 1) = my := by rw [hmy]; split <;> omega
              have hmx2 : max (1 : Int) y = my := by omega
              obtain ⟨mx, hmx⟩ : ∃ mx, max x y = mx := ⟨_, rfl⟩
              have hmx3 : (if x < y then y else x) = mx := by rw [← hmx]; split <;> omega
              obtain ⟨er, her⟩ : ∃ er, e.r = er := ⟨_, rfl⟩
              have HE1 : Hid (lookE l2 (c : Int) my = 0) := mkH (by unfold lookE; rw [hy, hmy, if_neg (by unfold num; omega), if_neg (by unfold num; omega), if_neg (by omega)])
              have HK1 : Hid (lookK l2 (c : Int) my = true) := mkH (by unfold lookK; rw [hy, hmy]; simp; constructor <;> (unfold num; omega))
              have HR1 : Hid (lookR l2 (c : Int) my = er) := mkH (by unfold lookR; rw [HK1.out, if_pos rfl, hat]; exact her)
              have HCE : Hid (Cnt er) := mkH (by rw [← her]; exact hce)
              by_cases hck : checkR er = 0
              · obtain ⟨hm1, hm2⟩ := hsay.1 e hat (by rw [her]; exact hck)
                have HLM : Hid (lastN M (c : Int) = mx) := mkH (by rw [hm1, ← hyn]; exact hmx)
                have HCK : Hid (((checkR er : Nat) : Int) = 0) := mkH (by rw [hck]; rfl)
                by_cases hgt : x < y
                · have hatM := hm2 (by omega)
                  have HE2 : Hid (lookE M (c : Int) y = 0) := mkH (by unfold lookE; rw [lastN_of hatM, if_neg (by unfold num; omega), if_neg (by unfold num; omega), if_neg (by omega)])
                  have HK2 : Hid (lookK M (c : Int) y = true) := mkH (by unfold lookK; rw [lastN_of hatM]; simp; exact ⟨by unfold num; omega, by unfold num; omega, hyn⟩)
                  have HR2 : Hid (lookR M (c : Int) y = er) := mkH (by unfold lookR; rw [HK2.out, if_pos rfl, hatM]; exact her)
                  clear hsay hat hx hy hmy hyn heb hce her hck hm1 hm2 hatM
                  go_wp2_with (first
                    | (go_at_call 15; refine (Wsr.rsameReply_self _ er g11 gc11 d11 dc11 r11 rc11 g8 gc8 d8 dc8 r8 rc8 HRz.out HRy.out HCE.out).mono ?_; rintro e1 W13 ⟨rfl, hg13⟩; have HT13 := mkH (HT12.out.below hg13.below); have HU13 := mkH (HU12.out.below hg13.below); have HV13 := mkH (HV12.out.below hg13.below); have HB13 := mkH (HB12.out.trans (hg13.below.mono HB12.out.size)); clear hg13)
                    | (refine wpList_ldw (ty := 34) (x := .tmp 18) rfl rfl rfl (load_pv HP12.out) ?_)
                    | (refine wpList_ldw (ty := 34) (x := .tmp 15) rfl rfl rfl (load_pv HQ12.out) ?_)
                    | (refine wpList_stn rfl (ty := 34) (x := .tmp 18) (y := .tmp 154) (cs := Pv er g11 gc11 d11 dc11 r11 rc11) (zs := Sw.zP6) rfl rfl rfl (Sw.infoPv _ _ _ _ _ _ _) (Sw.sizePv _ _ _ _ _ _ _) (Pv_one _ _ _ _ _ _ _) (fun W12 hB hg => ?_); have HP12 := mkH hB; have HQ12 := mkH (bx_bel HP11.out hg.below); have HRz := mkH (HR11.out.below hg.below); have HRy := mkH (HR10.out.below (hb11q.out.trans (hg.below.mono hb11q.out.size))); have HT12 := mkH (HT11.out.below hg.below); have HU12 := mkH (HU11.out.below hg.below); have HV12 := mkH (HV11.out.below hg.below); have HB12 := mkH (HB11.out.trans (hg.below.mono HB11.out.size)); clear hB hg)
                    | (have hq := q3; clear hq; go_at_call 13; refine (look_any HT10.out (c : Int) y).mono ?_; rintro e1 W11 ⟨g11, gc11, d11, dc11, r11, rc11, rfl, hr11, -, -, hb11⟩; rw [HE2.out, HK2.out, HR2.out]; rw [HR2.out] at hr11; have HR11 := mkH hr11; have hb11q := mkH hb11; have HP11 := mkH (bx_bel HP10.out hb11); have HT11 := mkH (HT10.out.below hb11); have HU11 := mkH (HU10.out.below hb11); have HV11 := mkH (HV10.out.below hb11); have HB11 := mkH (HB10.out.trans (hb11.mono HB10.out.size)); clear hr11 hb11)
                    | (have hq := q3; clear hq; go_at_call 16; refine (last_any HT10.out (c : Int) hcw).mono ?_; rintro e1 w1 ⟨rfl, h⟩; rw [HLM.out]; have h2 := h.symm; clear h; subst h2)
                    | (go_at_call 25; refine (rcheckReply_any _ er g8 gc8 d8 dc8 r8 rc8 HR9.out HCE.out).mono ?_; rintro e1 W10 ⟨rfl, hg10⟩; rw [HCK.out]; have q3 := trivial; have HP10 := mkH (bx_bel HP9.out hg10.below); have HR10 := mkH (HR9.out.below hg10.below); have HT10 := mkH (HT9.out.below hg10.below); have HU10 := mkH (HU9.out.below hg10.below); have HV10 := mkH (HV9.out.below hg10.below); have HB10 := mkH (HB9.out.trans (hg10.below.mono HB9.out.size)); clear hg10)
                    | (refine Wy.wpList_ld (ty := 34) (x := .tmp 15) rfl rfl rfl (load_pv HP9.out) ?_)
                    | (refine wpList_stn rfl (ty := 34) (x := .tmp 15) (y := .tmp 129) (cs := Pv er g8 gc8 d8 dc8 r8 rc8) (zs := Sw.zP6) rfl rfl rfl (Sw.infoPv _ _ _ _ _ _ _) (Sw.sizePv _ _ _ _ _ _ _) (Pv_one _ _ _ _ _ _ _) (fun W9 hB hg => ?_); have HP9 := mkH hB; have HR9 := mkH (HR8.out.below hg.below); have HT9 := mkH (HT8.out.below hg.below); have HU9 := mkH (HU8.out.below hg.below); have HV9 := mkH (HV8.out.below hg.below); have HB9 := mkH (HB8.out.trans (hg.below.mono HB8.out.size)); clear hB hg)
                    | (have hq := q2; clear hq; go_at_call 13; refine (look_any HUr.out (c : Int) my).mono ?_; rintro e1 W8 ⟨g8, gc8, d8, dc8, r8, rc8, rfl, hr8, -, -, hb8⟩; rw [HE1.out, HK1.out, HR1.out]; rw [HR1.out] at hr8; have HR8 := mkH hr8; have HT8 := mkH (HTr.out.below hb8); have HU8 := mkH (HUr.out.below hb8); have HV8 := mkH (HVr.out.below hb8); have HB8 := mkH (HBr.out.trans (hb8.mono HBr.out.size)); clear q2 hr8 hb8)
                    | (have hq := q1; clear hq; go_at_call 16; refine (last_any HUr.out (c : Int) hcw).mono ?_; rintro e1 w1 ⟨rfl, h⟩; rw [HYy.out]; have h2 := h.symm; clear h; subst h2; clear q1; have q2 := trivial)
                    | (go_at_call 16; refine (last_any HVr.out (c : Int) hcw).mono ?_; rintro e1 w1 ⟨rfl, h⟩; rw [HXx.out]; have h2 := h.symm; clear h; subst h2; have q1 := trivial))
                  refine ⟨⟨c + 1, by omega, by omega, by go_num, HT13, HU13, HV13, HB13⟩, ?_⟩
                  simp [intOf]; omega
                · clear hsay hat hx hy hmy hyn heb hce her hck hm1 hm2
                  go_wp2_with (first
                    | (have hq := q3; clear hq; go_at_call 16; refine (last_any HT10.out (c : Int) hcw).mono ?_; rintro e1 w1 ⟨rfl, h⟩; rw [HLM.out]; have h2 := h.symm; clear h; subst h2)
                    | (go_at_call 25; refine (rcheckReply_any _ er g8 gc8 d8 dc8 r8 rc8 HR9.out HCE.out).mono ?_; rintro e1 W10 ⟨rfl, hg10⟩; rw [HCK.out]; have q3 := trivial; have HP10 := mkH (bx_bel HP9.out hg10.below); have HR10 := mkH (HR9.out.below hg10.below); have HT10 := mkH (HT9.out.below hg10.below); have HU10 := mkH (HU9.out.below hg10.below); have HV10 := mkH (HV9.out.below hg10.below); have HB10 := mkH (HB9.out.trans (hg10.below.mono HB9.out.size)); clear hg10)
                    | (refine Wy.wpList_ld (ty := 34) (x := .tmp 15) rfl rfl rfl (load_pv HP9.out) ?_)
                    | (refine wpList_stn rfl (ty := 34) (x := .tmp 15) (y := .tmp 129) (cs := Pv er g8 gc8 d8 dc8 r8 rc8) (zs := Sw.zP6) rfl rfl rfl (Sw.infoPv _ _ _ _ _ _ _) (Sw.sizePv _ _ _ _ _ _ _) (Pv_one _ _ _ _ _ _ _) (fun W9 hB hg => ?_); have HP9 := mkH hB; have HR9 := mkH (HR8.out.below hg.below); have HT9 := mkH (HT8.out.below hg.below); have HU9 := mkH (HU8.out.below hg.below); have HV9 := mkH (HV8.out.below hg.below); have HB9 := mkH (HB8.out.trans (hg.below.mono HB8.out.size)); clear hB hg)
                    | (have hq := q2; clear hq; go_at_call 13; refine (look_any HUr.out (c : Int) my).mono ?_; rintro e1 W8 ⟨g8, gc8, d8, dc8, r8, rc8, rfl, hr8, -, -, hb8⟩; rw [HE1.out, HK1.out, HR1.out]; rw [HR1.out] at hr8; have HR8 := mkH hr8; have HT8 := mkH (HTr.out.below hb8); have HU8 := mkH (HUr.out.below hb8); have HV8 := mkH (HVr.out.below hb8); have HB8 := mkH (HBr.out.trans (hb8.mono HBr.out.size)); clear q2 hr8 hb8)
                    | (have hq := q1; clear hq; go_at_call 16; refine (last_any HUr.out (c : Int) hcw).mono ?_; rintro e1 w1 ⟨rfl, h⟩; rw [HYy.out]; have h2 := h.symm; clear h; subst h2; clear q1; have q2 := trivial)
                    | (go_at_call 16; refine (last_any HVr.out (c : Int) hcw).mono ?_; rintro e1 w1 ⟨rfl, h⟩; rw [HXx.out]; have h2 := h.symm; clear h; subst h2; have q1 := trivial))
                  refine ⟨⟨c + 1, by omega, by omega, by go_num, HT10, HU10, HV10, HB10⟩, ?_⟩
                  simp [intOf]; omega
              · obtain ⟨ck, hckk⟩ : ∃ ck : Int, ((checkR er : Nat) : Int) = ck := ⟨_, rfl⟩
                have hckn : ¬ ck = 0 := by omega
                have hckn2 : (ck != 0) = true := by simpa using hckn
                have HCK := mkH hckk
                clear hsay hat hx hy hmy hyn heb hce her hck hckk
                go_wp2_with (first
                  | (go_at_call 24; refine (Sw.works_any _).mono ?_; rintro e1 W20 ⟨rfl, hb20⟩; have HB20 := mkH (HB10.out.trans (hb20.mono HB10.out.size)); clear hb20)
                  | (have hq := q3; clear hq; go_at_call 16; refine (last_any HT10.out (c : Int) hcw).mono ?_; rintro e1 w1 ⟨rfl, h⟩; rw [HLM.out]; have h2 := h.symm; clear h; subst h2)
                  | (go_at_call 25; refine (rcheckReply_any _ er g8 gc8 d8 dc8 r8 rc8 HR9.out HCE.out).mono ?_; rintro e1 W10 ⟨rfl, hg10⟩; rw [HCK.out]; have q3 := trivial; have HP10 := mkH (bx_bel HP9.out hg10.below); have HR10 := mkH (HR9.out.below hg10.below); have HT10 := mkH (HT9.out.below hg10.below); have HU10 := mkH (HU9.out.below hg10.below); have HV10 := mkH (HV9.out.below hg10.below); have HB10 := mkH (HB9.out.trans (hg10.below.mono HB9.out.size)); clear hg10)
                  | (refine Wy.wpList_ld (ty := 34) (x := .tmp 15) rfl rfl rfl (load_pv HP9.out) ?_)
                  | (refine wpList_stn rfl (ty := 34) (x := .tmp 15) (y := .tmp 129) (cs := Pv er g8 gc8 d8 dc8 r8 rc8) (zs := Sw.zP6) rfl rfl rfl (Sw.infoPv _ _ _ _ _ _ _) (Sw.sizePv _ _ _ _ _ _ _) (Pv_one _ _ _ _ _ _ _) (fun W9 hB hg => ?_); have HP9 := mkH hB; have HR9 := mkH (HR8.out.below hg.below); have HT9 := mkH (HT8.out.below hg.below); have HU9 := mkH (HU8.out.below hg.below); have HV9 := mkH (HV8.out.below hg.below); have HB9 := mkH (HB8.out.trans (hg.below.mono HB8.out.size)); clear hB hg)
                  | (have hq := q2; clear hq; go_at_call 13; refine (look_any HUr.out (c : Int) my).mono ?_; rintro e1 W8 ⟨g8, gc8, d8, dc8, r8, rc8, rfl, hr8, -, -, hb8⟩; rw [HE1.out, HK1.out, HR1.out]; rw [HR1.out] at hr8; have HR8 := mkH hr8; have HT8 := mkH (HTr.out.below hb8); have HU8 := mkH (HUr.out.below hb8); have HV8 := mkH (HVr.out.below hb8); have HB8 := mkH (HBr.out.trans (hb8.mono HBr.out.size)); clear q2 hr8 hb8)
                  | (have hq := q1; clear hq; go_at_call 16; refine (last_any HUr.out (c : Int) hcw).mono ?_; rintro e1 w1 ⟨rfl, h⟩; rw [HYy.out]; have h2 := h.symm; clear h; subst h2; clear q1; have q2 := trivial)
                  | (go_at_call 16; refine (last_any HVr.out (c : Int) hcw).mono ?_; rintro e1 w1 ⟨rfl, h⟩; rw [HXx.out]; have h2 := h.symm; clear h; subst h2; have q1 := trivial))
                go_ret
                exact ⟨rfl, HB20.out⟩
          · obtain rfl : c = 7 := by omega
            go_wp2_with fail
            go_meet
            case rel => exact ⟨HTr, HUr, HVr, HBr⟩
      case rest =>
        obtain ⟨HT8, HU8, HV8, HB8⟩ := hcut
        clear HT7 HU7 HV7 HB7
        obtain ⟨-, hlM, hnM⟩ := Tb.nums HT8.out
        have hm8lt := Tb.lt HT8.out
        have HNM := mkH hnM
        have HDM := mkH (dump_ok hnM hlM)
        have HMA := mkH (HIM.out.mrg (l2.filter (okW fD)) (fun e he => HI2.out.r e (List.mem_filter.1 he).1))
        have HMB := mkH (HIM.out.mrg (M.filter (okW fD)) (fun e he => HIM.out.r e (List.mem_filter.1 he).1))
        clear hnM HV8 HSAY
        go_wp2_with (first
          | (go_at_call 24; refine (Sw.works_any _).mono ?_; rintro e1 Y8 ⟨rfl, hb8⟩; have HBY8 := mkH (HBY7.out.trans (hb8.mono HBY7.out.size)); clear hb8)
          | (go_at_call 19; refine (clients_any HWY6.out).mono ?_; intro e1 Y7 hcl; obtain ⟨ao7, cap7, rfl, -, hb7⟩ := (show ClP Y6 M e1 Y7 from hcl); have HBY7 := mkH (HBY6.out.trans (hb7.mono HBY6.out.size)); clear hcl hb7)
          | (go_at_call 19; refine (clients_any HTY5.out).mono ?_; intro e1 Y6 hcl; obtain ⟨ao6, cap6, rfl, -, hb6⟩ := (show ClP Y5 M e1 Y6 from hcl); have HWY6 := mkH (HWY5.out.below hb6); have HBY6 := mkH (HBY5.out.trans (hb6.mono HBY5.out.size)); clear hcl hb6)
          | (go_at_call 10; refine (merge_any HTY4.out aoB capB2 (texts fD M) HRY4.out HDM.out.1 HDM.out.2.1 (fun es hes => by rw [HDM.out.2.2] at hes; cases hes; exact HMB.out.2)).mono ?_; intro e1 Y5 hmg; obtain ⟨rfl, ht5, hf5⟩ := mgP_dump HNM.out hlM hmg; rw [HAG.out.2] at ht5; have HTY5 := mkH ht5; have HWY5 := mkH (Tb.other HWY4.out hf5 (Tb.bare HTY4.out) (by omega)); have HBY5 := mkH (HBY4.out.trans (hf5.below (fun k hk => Nat.le_of_eq hk.symm) HBY4.out.size)); clear hmg ht5 hf5)
          | (go_at_call 21; refine (dump_any HWY3.out).mono ?_; intro e1 Y4 hdu; obtain ⟨aoB, capB2, rfl, -, -, hr4, hb4⟩ := (show DuP Y3 (texts fD M) e1 Y4 from hdu); have HRY4 := mkH hr4; have HTY4 := mkH (HTY3.out.below hb4); have HWY4 := mkH (HWY3.out.below hb4); have HBY4 := mkH (HBY3.out.trans (hb4.mono HBY3.out.size)); clear hdu hr4 hb4)
          | (go_at_call 10; refine (merge_any HTY2.out aoA capA2 (texts fD l2) HRY2.out HD2.out.1 HD2.out.2.1 (fun es hes => by rw [HD2.out.2.2] at hes; cases hes; exact HMA.out.2)).mono ?_; intro e1 Y3 hmg; obtain ⟨rfl, ht3, hf3⟩ := mgP_dump HN2.out hl2 hmg; rw [HAG.out.1] at ht3; have HTY3 := mkH ht3; have HWY3 := mkH (Tb.other HWY2.out hf3 (Tb.bare HTY2.out) (by omega)); have HBY3 := mkH (HBY2.out.trans (hf3.below (fun k hk => Nat.le_of_eq hk.symm) HBY2.out.size)); clear hmg ht3 hf3)
          | (go_at_call 21; refine (dump_any HUY1.out).mono ?_; intro e1 Y2 hdu; obtain ⟨aoA, capA2, rfl, -, -, hr2, hb2⟩ := (show DuP Y1 (texts fD l2) e1 Y2 from hdu); have HRY2 := mkH hr2; have HTY2 := mkH (HTY1.out.below hb2); have HWY2 := mkH (HWY1.out.below hb2); have HBY2 := mkH (HBY1.out.trans (hb2.mono HBY1.out.size)); clear hdu hr2 hb2)
          | (go_at_call 12; refine (copy_any HT8.out).mono ?_; rintro e1 Y1 ⟨T4, rfl, hT4, hv1, hb1⟩; have HWY1 := mkH hv1; have HTY1 := mkH (HT8.out.below hb1); have HUY1 := mkH (HU8.out.below hb1); have HBY1 := mkH (HB8.out.trans (hb1.mono HB8.out.size)); clear hv1 hb1))
        go_ret
        exact ⟨rfl, HBY8.out⟩
end Go.Proofs.YtenkgpfeifflnaaGreat.Sme
