/-
  SeC SeD, joined by mrg.py.
-/
import Derived.Test.YtgbbajeeelgbhaaGreatDoorSqAX

namespace Go.Proofs.YtgbbajeeelgbhaaGreatDoor.Sc
open Go.RowKit Kt Pl Wi Wk Wa Sm Sa Sb
open Dk (Fr Nx)
open At (RowT)
set_option linter.unusedVariables false
set_option linter.unusedSimpArgs false
set_option maxRecDepth 20000

/-- A client's last number, 0 of what is none. -/
def lastN (l : List E) (c : Int) : Int := match atX E.k l c with | none => 0 | some x => x.n
def noteE (l : List E) (c n : Int) : Int := if ¬ num c then 2 else if ¬ num n then 2 else if n ≤ lastN l c then 16 else if (atX E.k l c).isNone = true ∧ 64 ≤ l.length then 7 else 0
def noteL (l : List E) (c n : Int) (r : Rp) : List E := if noteE l c n = 0 then put E.k l ⟨c, n, r⟩ else l
def lookE (l : List E) (c n : Int) : Int := if ¬ num c then 2 else if ¬ num n then 2 else if n < lastN l c then 16 else 0
def lookK (l : List E) (c n : Int) : Bool := decide (num c ∧ num n ∧ n = lastN l c)
def lookR (l : List E) (c n : Int) : Rp := if lookK l c n = true then (match atX E.k l c with | none => Rp.none | some x => x.r) else Rp.none

theorem at_p {xs : List X} {l : List E} (h : xs.map X.p = l) (c : Int) : atX E.k l c = (atX X.k xs c).map X.p := by rw [← h]; exact map_at X.p (fun _ => rfl) xs c
theorem put_p {xs : List X} {l : List E} (h : xs.map X.p = l) (x : X) : (put X.k xs x).map X.p = put E.k l x.p := by rw [← h]; exact map_put X.p (fun _ => rfl) xs x
theorem len_p {xs : List X} {l : List E} (h : xs.map X.p = l) : l.length = xs.length := by rw [← h]; simp

theorem put_len (xs : List X) (x y : X) (h : x.k = y.k) : (put X.k xs x).length = (put X.k xs y).length := by
  induction xs with
  | nil => rfl
  | cons q l ih => 
    rw [Sm.put, Sm.put, h]
    split
    · rfl
    · split
      · rfl
      · rw [List.length_cons, List.length_cons, ih]
theorem Tx.put {w w' : World} {F : Nat → Prop} {T Mb : Nat} {G : Nat → Prop} {xs : List X} {x : X} (h : Tx w F T Mb xs) (hm : Mt w' Mb (put X.k xs x)) (hf : Fr (fun k => k = Mb) w w') (hl : (Sm.put X.k xs x).length ≤ 64)
    (h1 : RpM w x.p.r x.ga x.da x.ra) (h2 : Cnt x.p.r) (h3 : Far G x.ga x.da x.ra) (h4 : num x.p.k ∧ num x.p.n) : Tx w' (fun k => F k ∨ G k) T Mb (Sm.put X.k xs x) := by
  have hb := Mt.bare h.m
  refine ⟨bx_fr h.bx hf (hb ⟨T, 0, none⟩ _ (h.bx.cell 0)), hm, srt_put h.s x, fun y hy => ?_, .inl h.ft, .inl h.fm, hl⟩
  rcases mem_put hy with rfl | hy
  · exact ⟨rpM_bare h1 hf hb, h2, h3.mono (fun k hk => .inr hk), h4⟩
  · obtain ⟨q1, q2, q3, q4⟩ := h.r y hy
    exact ⟨rpM_bare q1 hf hb, q2, q3.mono (fun k hk => .inl hk), q4⟩

theorem start1c {P : Program} {f : FuncId} {args : Array Value} {R : Ending → World → Prop} {w : World} {cs : Array Value} {t : TypeId}
    (h : ∀ W0, Bx W0 w.heap.size cs t → Below w.heap.size w W0 → W0.heap.size = w.heap.size + 1 → Calls P f args W0 R) : Calls P f args (w.alloc (.cells cs t)) R :=
  h _ (Bx.new w cs t) ((Below.refl _ w).alloc (Nat.le_refl _) _) (by simp)
/-- What Note hands back and leaves. -/
def NoteP (w : World) (F : Nat → Prop) (T Mb : Nat) (l : List E) (c n : Int) (r : Rp) (e : Ending) (w' : World) : Prop :=
  e = .returned (.int .i64 (noteE l c n)) ∧ (∃ F', Tb w' F' T Mb (noteL l c n r) ∧ ∀ k, F' k → F k ∨ (w.heap.size ≤ k ∧ k < w'.heap.size)) ∧ Fr (fun k => k = Mb) w w'
theorem NoteP.err {w w' : World} {F : Nat → Prop} {T Mb : Nat} {l : List E} {c n : Int} {r : Rp} {e : Int} (he : noteE l c n = e) (h0 : e ≠ 0) (h : Tb w F T Mb l) (hb : Below w.heap.size w w') : NoteP w F T Mb l c n r (.returned (.int .i64 e)) w' := by
  refine ⟨by rw [he], ⟨F, ?_, fun k hk => .inl hk⟩, Fr.ofBelow hb⟩
  unfold noteL
  rw [he, if_neg h0]
  exact h.below hb
theorem infoA : (Tryz.prog.info? 150).map (·.size) = some 7 := by kernel_rfl
def zA7 : Array Value := #[.int .i64 0, .int .i64 0, .int .i64 0, .int .i64 0, .slice none 0 0, .slice none 0 0, .slice none 0 0]
theorem wf_int {k : Int} (h1 : -9223372036854775808 ≤ k) (h2 : k ≤ 9223372036854775807) : (Lit.int .i64 k).wf = true := by
  have e1 : (IntKind.i64.min : Int) = -9223372036854775808 := rfl
  have e2 : (IntKind.i64.max : Int) = 9223372036854775807 := rfl
  simp [Lit.wf, e1, e2]; omega
theorem wf_num {n : Int} (h : num n) : (Lit.int .i64 n).wf = true := wf_int (by unfold num at h; omega) (by unfold num at h; omega)
/-- What a look-up yields. -/
theorem look_ans {w : World} {F : Nat → Prop} {T Mb : Nat} {xs : List X} {l : List E} (h : Tx w F T Mb xs) (hl : xs.map X.p = l) {c : Int} (hc : (Lit.int .i64 c).wf = true) : ∃ A : Array Value, A.size = 7 ∧ A.all (fun x => x.oneCell') = true ∧ A[0]? = some (.int .i64 (lastN l c)) ∧
    (Instr.lookup 151 (.map (some Mb)) (.int .i64 c) true).run Tryz.prog w = .ok (.tuple #[.agg A, .bool (atX E.k l c).isSome]) w ∧
    (Instr.lookup 151 (.map (some Mb)) (.int .i64 c) false).run Tryz.prog w = .ok (.agg A) w ∧
    ∃ r ga gc da dc ra rc, A = #[.int .i64 (lastN l c), .int .i64 r.err, .int .i64 r.seq, .int .i64 r.n, .slice ga r.got.length gc, .slice da r.data.length dc, .slice ra r.about.length rc] ∧ RpM w r ga da ra ∧ Cnt r ∧ r = (match atX E.k l c with | none => Rp.none | some x => x.r) := by
  have h2 := look2 uI Tryz.underlying151 (zA w) h.m hc
  have h1 := look1 uI Tryz.underlying151 (zA w) h.m hc
  have e := at_p hl c
  unfold lastN
  cases ha : atX X.k xs c with
  | none =>
    rw [ha] at h1 h2 e
    rw [e]
    exact ⟨_, rfl, by rw [List.all_toArray]; rfl, rfl, h2, h1, Rp.none, none, 0, none, 0, none, 0, rfl, ⟨RowS.nil _ _, fun h => by simp [Rp.none] at h, RowS.nil _ _⟩, ⟨by simp [Rp.none], by simp [Rp.none], by simp [Rp.none]⟩, rfl⟩
  | some x =>
    rw [ha] at h1 h2 e
    rw [e]
    obtain ⟨q1, q2, q3, q4⟩ := h.r x (atX_mem ha).1
    exact ⟨_, rfl, by rw [List.all_toArray]; rfl, rfl, h2, h1, x.p.r, x.ga, x.gc, x.da, x.dc, x.ra, x.rc, rfl, q1, q2, rfl⟩

set_option maxHeartbeats 4000000 in
theorem note_any {w : World} {F : Nat → Prop} {T Mb : Nat} {l : List E} (ht : Tb w F T Mb l) (c n : Int) (r : Rp) (ga : Option Addr) (gc : Nat) (da : Option Addr) (dc : Nat) (ra : Option Addr) (rc : Nat) (hm : RpM w r ga da ra) (hcn : Cnt r) :
    Calls Tryz.prog 103 #[.pointer (some ⟨T, 0, none⟩), .int .i64 c, .int .i64 n, .agg (Pv r ga gc da dc ra rc)] w fun e w' => NoteP w F T Mb l c n r e w' := by
  have hmx : Tryz.prog.follows .mixedOrders = true := by kernel_rfl
  have HT := mkH ht
  obtain ⟨xs, hxs, hx⟩ := ht
  have HXS := mkH hxs
  have HX := mkH hx
  have HM := mkH hm
  have HC := mkH hcn
  clear hxs hx hm hcn
  go_enter Tryz.func103, Tryz.ntmps103
  go_wp2_with fail
  refine start1c (cs := Pv r ga gc da dc ra rc) (fun W0 hB hG hsz => ?_)
  have HB := mkH hB
  have HG := mkH hG
  have HX0 := mkH (HX.out.below hG)
  have HT0 := HT
  have HSZ := mkH hsz
  clear hB hG hsz
  by_cases hc : num c
  · have dc1 : decide (num c) = true := by simp [hc]
    by_cases hn : num n
    · have dn1 : decide (num n) = true := by simp [hn]
      have HCN := mkH (And.intro hc hn)
      have hcw := wf_num hc
      obtain ⟨A, hA7, hA1, hA0, hl2, -, -⟩ := look_ans HX0.out HXS.out hcw
      obtain ⟨L, hL⟩ : ∃ L, lastN l c = L := ⟨_, rfl⟩
      obtain ⟨kn, hkn⟩ : ∃ kn, (atX E.k l c).isSome = kn := ⟨_, rfl⟩
      have hll := len_p HXS.out
      rw [hL] at hA0
      rw [hkn] at hl2
      have HEE : Hid (noteE l c n = if n ≤ L then 16 else if kn = false ∧ 64 ≤ xs.length then 7 else 0) := mkH (by
        unfold noteE
        rw [if_neg (by simpa using hc), if_neg (by simpa using hn), hL, hll]
        have : ((atX E.k l c).isNone = true) ↔ kn = false := by rw [← hkn]; cases atX E.k l c <;> simp
        by_cases h1 : n ≤ L
        · rw [if_pos h1, if_pos h1]
        · rw [if_neg h1, if_neg h1]
          by_cases h2 : kn = false ∧ 64 ≤ xs.length
          · rw [if_pos h2, if_pos ⟨this.2 h2.1, h2.2⟩]
          · rw [if_neg h2, if_neg (fun h => h2 ⟨this.1 h.1, h.2⟩)])
      have HKN := mkH hkn
      have HA0 := mkH hA0
      have HAI : Hid ((Tryz.prog.info? 150).map (·.size) = some A.size) := mkH (by rw [hA7]; exact infoA)
      have HAZ : Hid (zA7.size = A.size) := mkH (by rw [hA7]; rfl)
      have HA1 := mkH hA1
      have cT0 : W0.cell? ⟨T, 0, none⟩ = some (.map (some Mb)) := HX0.out.bx.cell 0
      clear hc hn hA7 hA1 hA0 hL hkn hll
      by_cases hle : n ≤ L
      · have HE2 : Hid (noteE l c n = 16) := mkH (by rw [HEE.out, if_pos hle])
        go_wp2_with (first
          | (go_at_call 76; refine (isMade_yes HX0.out.bx).mono ?_; rintro e1 w1 ⟨rfl, h⟩; have h2 := h.symm; clear h; subst h2)
          | (go_at_call 156; refine (isNumber_any _ _).mono ?_; rintro e1 w1 ⟨rfl, h⟩; have h2 := h.symm; clear h; subst h2)
          | (refine wpList_stn rfl (ty := 150) (x := .tmp 9) (y := .tmp 31) (cs := A) (zs := zA7) rfl rfl rfl HAI.out HAZ.out HA1.out (fun W1 hB1 hg1 => ?_); have HB1 := mkH (And.intro hB1 hg1.below); have cL : W1.cell? ⟨W0.heap.size, 0, none⟩ = some (.int .i64 L) := (hB1.cell 0).trans HA0.out; have HX1 := mkH (HX0.out.below hg1.below); have cT1 : W1.cell? ⟨T, 0, none⟩ = some (.map (some Mb)) := HX1.out.bx.cell 0; have hln := fun ty => Mw.len Tryz.underlying151 HX1.out.m ty; clear hB1 hg1 hl2))
        go_ret
        exact NoteP.err HE2.out (by decide) HT.out (HG.out.trans (HB1.out.2.mono HG.out.size))
      · cases kn with
        | false =>
          by_cases h64 : 64 ≤ xs.length
          · have HE2 : Hid (noteE l c n = 7) := mkH (by rw [HEE.out, if_neg hle, if_pos ⟨rfl, h64⟩])
            have h64' : (64 : Int) ≤ (xs.length : Int) := by omega
            go_wp2_with (first
              | (go_at_call 76; refine (isMade_yes HX0.out.bx).mono ?_; rintro e1 w1 ⟨rfl, h⟩; have h2 := h.symm; clear h; subst h2)
              | (go_at_call 156; refine (isNumber_any _ _).mono ?_; rintro e1 w1 ⟨rfl, h⟩; have h2 := h.symm; clear h; subst h2)
              | (refine wpList_stn rfl (ty := 150) (x := .tmp 9) (y := .tmp 31) (cs := A) (zs := zA7) rfl rfl rfl HAI.out HAZ.out HA1.out (fun W1 hB1 hg1 => ?_); have HB1 := mkH (And.intro hB1 hg1.below); have cL : W1.cell? ⟨W0.heap.size, 0, none⟩ = some (.int .i64 L) := (hB1.cell 0).trans HA0.out; have HX1 := mkH (HX0.out.below hg1.below); have cT1 : W1.cell? ⟨T, 0, none⟩ = some (.map (some Mb)) := HX1.out.bx.cell 0; have hln := fun ty => Mw.len Tryz.underlying151 HX1.out.m ty; clear hB1 hg1 hl2))
            go_ret
            exact NoteP.err HE2.out (by decide) HT.out (HG.out.trans (HB1.out.2.mono HG.out.size))
          · have hfit : Hid ((put X.k xs ⟨⟨c, n, r⟩, none, 0, none, 0, none, 0⟩).length ≤ 64) := mkH (by have := len_put_le (key := X.k) xs ⟨⟨c, n, r⟩, none, 0, none, 0, none, 0⟩; omega)
            have HE2 : Hid (noteE l c n = 0) := mkH (by rw [HEE.out, if_neg hle, if_neg (fun h => h64 h.2)])
            have h64' : ¬ (64 : Int) ≤ (xs.length : Int) := by omega
            go_wp2_with (first
              | (go_at_call 76; refine (isMade_yes HX0.out.bx).mono ?_; rintro e1 w1 ⟨rfl, h⟩; have h2 := h.symm; clear h; subst h2)
              | (go_at_call 156; refine (isNumber_any _ _).mono ?_; rintro e1 w1 ⟨rfl, h⟩; have h2 := h.symm; clear h; subst h2)
              | (refine wpList_stn rfl (ty := 150) (x := .tmp 9) (y := .tmp 31) (cs := A) (zs := zA7) rfl rfl rfl HAI.out HAZ.out HA1.out (fun W1 hB1 hg1 => ?_); have HB1 := mkH (And.intro hB1 hg1.below); have cL : W1.cell? ⟨W0.heap.size, 0, none⟩ = some (.int .i64 L) := (hB1.cell 0).trans HA0.out; have HX1 := mkH (HX0.out.below hg1.below); have cT1 : W1.cell? ⟨T, 0, none⟩ = some (.map (some Mb)) := HX1.out.bx.cell 0; have hln := fun ty => Mw.len Tryz.underlying151 HX1.out.m ty; clear hB1 hg1 hl2))
            have HB2 := mkH (bx_bel HB.out HB1.out.2)
            have HG2 := mkH (HG.out.trans (HB1.out.2.mono HG.out.size))
            clear HB1 hln cL cT0
            refine Rg.region_G hmx 9 (fun W => W.cell? ⟨T, 0, none⟩ = some (.map (some Mb)) ∧ (loadVar 46 ⟨w.heap.size, 0, none⟩).run Tryz.prog W = .ok (.agg (Pv r ga gc da dc ra rc)) W) ⟨HX1.out.bx.cell 0, load_pv HB2.out.drew⟩ (fun hHeld => ?_)
            have HXV0 := mkH (HX1.out.below (below_drew _))
            have HBV0 := mkH HB2.out.drew
            have HGV0 := mkH HG2.out.drew
            generalize W1.drew = V0 at *
            refine Rg.anyG_pure (i := 0) (oi := { dst := some 49, op := _, type := _, pos := _, after := _, guard := _ }) (v := ?_) rfl (by kernel_rfl) (by kernel_rfl) (by kernel_rfl) (by rfl) (fun _ _ _ h => h) (Or.inl ⟨by rfl, ?_⟩) (fun _ => by assumption) ?_
            rotate_left
            · (intro W hSw; (try dsimp only at hSw); go_simp; try (with_reducible rfl))
            try simp only [Act.put, List.setIfInBounds_toArray, List.set_cons_zero, List.set_cons_succ]
            refine Rg.anyG_pure (i := 1) (oi := { dst := some 50, op := _, type := _, pos := _, after := _, guard := _ }) (v := ?_) rfl (by kernel_rfl) (by kernel_rfl) (by kernel_rfl) (by rfl) (fun _ _ _ h => h) (Or.inl ⟨by rfl, ?_⟩) (fun _ => by assumption) ?_
            rotate_left
            · (intro W hSw; (try dsimp only at hSw); go_simp; try (with_reducible rfl))
            try simp only [Act.put, List.setIfInBounds_toArray, List.set_cons_zero, List.set_cons_succ]
            refine Rg.anyG_pure (i := 2) (oi := { dst := some 51, op := _, type := _, pos := _, after := _, guard := _ }) (v := ?_) rfl (by kernel_rfl) (by kernel_rfl) (by kernel_rfl) (by rfl) (fun _ _ _ h => h) (Or.inl ⟨by rfl, ?_⟩) (fun _ => by assumption) ?_
            rotate_left
            · (intro W hSw; (try dsimp only at hSw); go_simp; try (with_reducible rfl))
            try simp only [Act.put, List.setIfInBounds_toArray, List.set_cons_zero, List.set_cons_succ]
            refine Rg.anyG_take (i := 3) (oi := { dst := some 52, op := _, type := _, pos := _, after := _, guard := _ }) (v := ?_) rfl (by kernel_rfl) (by kernel_rfl) (by kernel_rfl) [9] (by kernel_rfl) (fun _ _ _ h => h) (Or.inl ⟨by rfl, ?_⟩) (by assumption) ?_
            rotate_left
            · (intro W hSw; (try dsimp only at hSw); go_simp; try (with_reducible rfl))
            try simp only [Act.put, List.setIfInBounds_toArray, List.set_cons_zero, List.set_cons_succ]
            refine Rg.anyG_pure (i := 4) (oi := { dst := some 53, op := _, type := _, pos := _, after := _, guard := _ }) (v := ?_) rfl (by kernel_rfl) (by kernel_rfl) (by kernel_rfl) (by rfl) (fun _ _ _ h => h) (Or.inl ⟨by rfl, ?_⟩) (fun _ => by assumption) ?_
            rotate_left
            · (intro W hSw; (try dsimp only at hSw); go_simp; try (with_reducible rfl))
            try simp only [Act.put, List.setIfInBounds_toArray, List.set_cons_zero, List.set_cons_succ]
            refine Rg.anyG_pure (i := 5) (oi := { dst := some 54, op := _, type := _, pos := _, after := _, guard := _ }) (v := ?_) rfl (by kernel_rfl) (by kernel_rfl) (by kernel_rfl) (by rfl) (fun _ _ _ h => h) (Or.inl ⟨by rfl, ?_⟩) (fun _ => by assumption) ?_
            rotate_left
            · (intro W hSw; (try dsimp only at hSw); go_simp; try (with_reducible rfl))
            try simp only [Act.put, List.setIfInBounds_toArray, List.set_cons_zero, List.set_cons_succ]
            refine Rg.anyG_take (i := 6) (oi := { dst := some 55, op := _, type := _, pos := _, after := _, guard := _ }) (v := .agg (Pv r ga gc da dc ra rc)) rfl (by kernel_rfl) (by kernel_rfl) (by kernel_rfl) [9] (by kernel_rfl) (fun _ _ _ h => h) (Or.inl ⟨by rfl, ?_⟩) (by assumption) ?_
            · (intro W hSw; (try dsimp only at hSw); exact Wx.run_ld (x := .tmp 7) rfl rfl hSw.2)
            try simp only [Act.put, List.setIfInBounds_toArray, List.set_cons_zero, List.set_cons_succ]
            refine Rg.anyG_ready (rs := [7]) (by kernel_rfl) (by simp) ?_
            refine (Rg.AllG.cons (o := { dst := some 56, op := _, type := _, pos := _, after := _, guard := _ }) rfl (fun K hK => ?_) Rg.AllG.nil)
            go_simp
            refine (copyReply_any _ r ga gc da dc ra rc (HM.out.below (HGV0.out)) HC.out).mono ?_
            rintro e1 V1 ⟨g2, gc2, d2, dc2, r2, rc2, rfl, hr2, hf2, hb2⟩
            have HXV1 := mkH (HXV0.out.below hb2)
            have HBV1 := mkH (bx_bel HBV0.out hb2)
            have HGV1 := mkH (HGV0.out.trans (hb2.mono HGV0.out.size))
            have HR2 := mkH hr2
            have HF2 := mkH (hf2.mono (fun k hk => ⟨Nat.le_trans HGV0.out.size hk.1, hk.2⟩) : Far (fun k => w.heap.size ≤ k ∧ k < V1.heap.size) g2 d2 r2)
            clear hr2 hf2 hb2
            go_wp2_with fail
            refine hK.out _ _ ?_ (fun hHeld => ?_)
            · exact ⟨HXV1.out.bx.cell 0, load_pv HBV1.out⟩
            clear hK K
            try simp only [Act.put, List.setIfInBounds_toArray, List.set_cons_zero, List.set_cons_succ]
            refine Rg.anyG_pure (i := 8) (oi := { dst := some 57, op := _, type := _, pos := _, after := _, guard := _ }) (v := .agg #[.int .i64 n, .int .i64 r.err, .int .i64 r.seq, .int .i64 r.n, .slice g2 r.got.length gc2, .slice d2 r.data.length dc2, .slice r2 r.about.length rc2]) rfl (by kernel_rfl) (by kernel_rfl) (by kernel_rfl) (by rfl) (fun _ _ _ h => h) (Or.inl ⟨by rfl, ?_⟩) (fun _ => by assumption) ?_
            · (intro W hSw; (try dsimp only at hSw); unfold Pv; go_simp; try (with_reducible rfl))
            try simp only [Act.put, List.setIfInBounds_toArray, List.set_cons_zero, List.set_cons_succ]
            refine Rg.anyG_ready (rs := [9]) (by kernel_rfl) (by simp) ?_
            refine Rg.AllG.last (o := { dst := none, op := _, type := _, pos := _, after := _, guard := _ }) rfl (by kernel_rfl) (fun K hK => ?_)
            obtain ⟨V2, hrun, hm2, hf2⟩ := store1 uI Tryz.underlying151 HXV1.out.m HXV1.out.s (by have := HXV1.out.len; omega) (⟨⟨c, n, r⟩, g2, gc2, d2, dc2, r2, rc2⟩ : X) hcw
            have hrun' : (Instr.mapUpdate 151 (.map (some Mb)) (.int .i64 c) (.agg #[.int .i64 n, .int .i64 r.err, .int .i64 r.seq, .int .i64 r.n, .slice g2 r.got.length gc2, .slice d2 r.data.length dc2, .slice r2 r.about.length rc2])).run Tryz.prog V1 = .ok () V2 := hrun
            have hfit2 : (put X.k xs ⟨⟨c, n, r⟩, g2, gc2, d2, dc2, r2, rc2⟩).length ≤ 64 := by rw [← put_len xs ⟨⟨c, n, r⟩, none, 0, none, 0, none, 0⟩ ⟨⟨c, n, r⟩, g2, gc2, d2, dc2, r2, rc2⟩ rfl]; exact hfit.out
            have HX2 := mkH (Tx.put (G := fun k => w.heap.size ≤ k ∧ k < V1.heap.size) HXV1.out hm2 hf2 hfit2 HR2.out HC.out HF2.out HCN.out)
            have HF3 := mkH ((Fr.ofBelow (F := fun k => k = Mb) HGV1.out).trans hf2 (fun i hi => .inl hi))
            have HSZ2 := mkH hf2.size
            clear hrun hm2 hf2 hfit2
            go_simp
            refine hK.out _ _ ?_
            clear hK K
            try simp only [Act.put, List.setIfInBounds_toArray, List.set_cons_zero, List.set_cons_succ]
            refine Rg.anyG_done (by kernel_rfl) ?_ _
            go_wp2_with fail
            go_ret
            refine ⟨by rw [HE2.out]; rfl, ⟨_, ⟨_, ?_, HX2.out⟩, fun k hk => hk.imp id (fun h => ⟨h.1, Nat.lt_of_lt_of_le h.2 HSZ2.out⟩)⟩, HF3.out⟩
            unfold noteL
            rw [HE2.out, if_pos rfl]
            exact put_p HXS.out _
        | true =>
          have hfit : Hid ((put X.k xs ⟨⟨c, n, r⟩, none, 0, none, 0, none, 0⟩).length ≤ 64) := mkH (by
            have h1 := len_put HX.out.s (⟨⟨c, n, r⟩, none, 0, none, 0, none, 0⟩ : X)
            have h2 := at_p HXS.out c
            have h3 := HKN.out
            rw [h2] at h3
            have h4 : (atX X.k xs (X.k ⟨⟨c, n, r⟩, none, 0, none, 0, none, 0⟩)).isSome = true := by
              show (atX X.k xs c).isSome = true
              cases h : atX X.k xs c
              · rw [h] at h3; simp at h3
              · rfl
            rw [if_pos h4] at h1
            rw [h1]
            exact HX.out.len)
          have HE2 : Hid (noteE l c n = 0) := mkH (by rw [HEE.out, if_neg hle, if_neg (fun h => by cases h.1)])
          go_wp2_with (first
            | (go_at_call 76; refine (isMade_yes HX0.out.bx).mono ?_; rintro e1 w1 ⟨rfl, h⟩; have h2 := h.symm; clear h; subst h2)
            | (go_at_call 156; refine (isNumber_any _ _).mono ?_; rintro e1 w1 ⟨rfl, h⟩; have h2 := h.symm; clear h; subst h2)
            | (refine wpList_stn rfl (ty := 150) (x := .tmp 9) (y := .tmp 31) (cs := A) (zs := zA7) rfl rfl rfl HAI.out HAZ.out HA1.out (fun W1 hB1 hg1 => ?_); have HB1 := mkH (And.intro hB1 hg1.below); have cL : W1.cell? ⟨W0.heap.size, 0, none⟩ = some (.int .i64 L) := (hB1.cell 0).trans HA0.out; have HX1 := mkH (HX0.out.below hg1.below); have cT1 : W1.cell? ⟨T, 0, none⟩ = some (.map (some Mb)) := HX1.out.bx.cell 0; have hln := fun ty => Mw.len Tryz.underlying151 HX1.out.m ty; clear hB1 hg1 hl2))
          have HB2 := mkH (bx_bel HB.out HB1.out.2)
          have HG2 := mkH (HG.out.trans (HB1.out.2.mono HG.out.size))
          clear HB1 hln cL cT0
          refine Rg.region_G hmx 9 (fun W => W.cell? ⟨T, 0, none⟩ = some (.map (some Mb)) ∧ (loadVar 46 ⟨w.heap.size, 0, none⟩).run Tryz.prog W = .ok (.agg (Pv r ga gc da dc ra rc)) W) ⟨HX1.out.bx.cell 0, load_pv HB2.out.drew⟩ (fun hHeld => ?_)
          have HXV0 := mkH (HX1.out.below (below_drew _))
          have HBV0 := mkH HB2.out.drew
          have HGV0 := mkH HG2.out.drew
          generalize W1.drew = V0 at *
          refine Rg.anyG_pure (i := 0) (oi := { dst := some 49, op := _, type := _, pos := _, after := _, guard := _ }) (v := ?_) rfl (by kernel_rfl) (by kernel_rfl) (by kernel_rfl) (by rfl) (fun _ _ _ h => h) (Or.inl ⟨by rfl, ?_⟩) (fun _ => by assumption) ?_
          rotate_left
          · (intro W hSw; (try dsimp only at hSw); go_simp; try (with_reducible rfl))
          try simp only [Act.put, List.setIfInBounds_toArray, List.set_cons_zero, List.set_cons_succ]
          refine Rg.anyG_pure (i := 1) (oi := { dst := some 50, op := _, type := _, pos := _, after := _, guard := _ }) (v := ?_) rfl (by kernel_rfl) (by kernel_rfl) (by kernel_rfl) (by rfl) (fun _ _ _ h => h) (Or.inl ⟨by rfl, ?_⟩) (fun _ => by assumption) ?_
          rotate_left
          · (intro W hSw; (try dsimp only at hSw); go_simp; try (with_reducible rfl))
          try simp only [Act.put, List.setIfInBounds_toArray, List.set_cons_zero, List.set_cons_succ]
          refine Rg.anyG_pure (i := 2) (oi := { dst := some 51, op := _, type := _, pos := _, after := _, guard := _ }) (v := ?_) rfl (by kernel_rfl) (by kernel_rfl) (by kernel_rfl) (by rfl) (fun _ _ _ h => h) (Or.inl ⟨by rfl, ?_⟩) (fun _ => by assumption) ?_
          rotate_left
          · (intro W hSw; (try dsimp only at hSw); go_simp; try (with_reducible rfl))
          try simp only [Act.put, List.setIfInBounds_toArray, List.set_cons_zero, List.set_cons_succ]
          refine Rg.anyG_take (i := 3) (oi := { dst := some 52, op := _, type := _, pos := _, after := _, guard := _ }) (v := ?_) rfl (by kernel_rfl) (by kernel_rfl) (by kernel_rfl) [9] (by kernel_rfl) (fun _ _ _ h => h) (Or.inl ⟨by rfl, ?_⟩) (by assumption) ?_
          rotate_left
          · (intro W hSw; (try dsimp only at hSw); go_simp; try (with_reducible rfl))
          try simp only [Act.put, List.setIfInBounds_toArray, List.set_cons_zero, List.set_cons_succ]
          refine Rg.anyG_pure (i := 4) (oi := { dst := some 53, op := _, type := _, pos := _, after := _, guard := _ }) (v := ?_) rfl (by kernel_rfl) (by kernel_rfl) (by kernel_rfl) (by rfl) (fun _ _ _ h => h) (Or.inl ⟨by rfl, ?_⟩) (fun _ => by assumption) ?_
          rotate_left
          · (intro W hSw; (try dsimp only at hSw); go_simp; try (with_reducible rfl))
          try simp only [Act.put, List.setIfInBounds_toArray, List.set_cons_zero, List.set_cons_succ]
          refine Rg.anyG_pure (i := 5) (oi := { dst := some 54, op := _, type := _, pos := _, after := _, guard := _ }) (v := ?_) rfl (by kernel_rfl) (by kernel_rfl) (by kernel_rfl) (by rfl) (fun _ _ _ h => h) (Or.inl ⟨by rfl, ?_⟩) (fun _ => by assumption) ?_
          rotate_left
          · (intro W hSw; (try dsimp only at hSw); go_simp; try (with_reducible rfl))
          try simp only [Act.put, List.setIfInBounds_toArray, List.set_cons_zero, List.set_cons_succ]
          refine Rg.anyG_take (i := 6) (oi := { dst := some 55, op := _, type := _, pos := _, after := _, guard := _ }) (v := .agg (Pv r ga gc da dc ra rc)) rfl (by kernel_rfl) (by kernel_rfl) (by kernel_rfl) [9] (by kernel_rfl) (fun _ _ _ h => h) (Or.inl ⟨by rfl, ?_⟩) (by assumption) ?_
          · (intro W hSw; (try dsimp only at hSw); exact Wx.run_ld (x := .tmp 7) rfl rfl hSw.2)
          try simp only [Act.put, List.setIfInBounds_toArray, List.set_cons_zero, List.set_cons_succ]
          refine Rg.anyG_ready (rs := [7]) (by kernel_rfl) (by simp) ?_
          refine (Rg.AllG.cons (o := { dst := some 56, op := _, type := _, pos := _, after := _, guard := _ }) rfl (fun K hK => ?_) Rg.AllG.nil)
          go_simp
          refine (copyReply_any _ r ga gc da dc ra rc (HM.out.below (HGV0.out)) HC.out).mono ?_
          rintro e1 V1 ⟨g2, gc2, d2, dc2, r2, rc2, rfl, hr2, hf2, hb2⟩
          have HXV1 := mkH (HXV0.out.below hb2)
          have HBV1 := mkH (bx_bel HBV0.out hb2)
          have HGV1 := mkH (HGV0.out.trans (hb2.mono HGV0.out.size))
          have HR2 := mkH hr2
          have HF2 := mkH (hf2.mono (fun k hk => ⟨Nat.le_trans HGV0.out.size hk.1, hk.2⟩) : Far (fun k => w.heap.size ≤ k ∧ k < V1.heap.size) g2 d2 r2)
          clear hr2 hf2 hb2
          go_wp2_with fail
          refine hK.out _ _ ?_ (fun hHeld => ?_)
          · exact ⟨HXV1.out.bx.cell 0, load_pv HBV1.out⟩
          clear hK K
          try simp only [Act.put, List.setIfInBounds_toArray, List.set_cons_zero, List.set_cons_succ]
          refine Rg.anyG_pure (i := 8) (oi := { dst := some 57, op := _, type := _, pos := _, after := _, guard := _ }) (v := .agg #[.int .i64 n, .int .i64 r.err, .int .i64 r.seq, .int .i64 r.n, .slice g2 r.got.length gc2, .slice d2 r.data.length dc2, .slice r2 r.about.length rc2]) rfl (by kernel_rfl) (by kernel_rfl) (by kernel_rfl) (by rfl) (fun _ _ _ h => h) (Or.inl ⟨by rfl, ?_⟩) (fun _ => by assumption) ?_
          · (intro W hSw; (try dsimp only at hSw); unfold Pv; go_simp; try (with_reducible rfl))
          try simp only [Act.put, List.setIfInBounds_toArray, List.set_cons_zero, List.set_cons_succ]
          refine Rg.anyG_ready (rs := [9]) (by kernel_rfl) (by simp) ?_
          refine Rg.AllG.last (o := { dst := none, op := _, type := _, pos := _, after := _, guard := _ }) rfl (by kernel_rfl) (fun K hK => ?_)
          obtain ⟨V2, hrun, hm2, hf2⟩ := store1 uI Tryz.underlying151 HXV1.out.m HXV1.out.s (by have := HXV1.out.len; omega) (⟨⟨c, n, r⟩, g2, gc2, d2, dc2, r2, rc2⟩ : X) hcw
          have hrun' : (Instr.mapUpdate 151 (.map (some Mb)) (.int .i64 c) (.agg #[.int .i64 n, .int .i64 r.err, .int .i64 r.seq, .int .i64 r.n, .slice g2 r.got.length gc2, .slice d2 r.data.length dc2, .slice r2 r.about.length rc2])).run Tryz.prog V1 = .ok () V2 := hrun
          have hfit2 : (put X.k xs ⟨⟨c, n, r⟩, g2, gc2, d2, dc2, r2, rc2⟩).length ≤ 64 := by rw [← put_len xs ⟨⟨c, n, r⟩, none, 0, none, 0, none, 0⟩ ⟨⟨c, n, r⟩, g2, gc2, d2, dc2, r2, rc2⟩ rfl]; exact hfit.out
          have HX2 := mkH (Tx.put (G := fun k => w.heap.size ≤ k ∧ k < V1.heap.size) HXV1.out hm2 hf2 hfit2 HR2.out HC.out HF2.out HCN.out)
          have HF3 := mkH ((Fr.ofBelow (F := fun k => k = Mb) HGV1.out).trans hf2 (fun i hi => .inl hi))
          have HSZ2 := mkH hf2.size
          clear hrun hm2 hf2 hfit2
          go_simp
          refine hK.out _ _ ?_
          clear hK K
          try simp only [Act.put, List.setIfInBounds_toArray, List.set_cons_zero, List.set_cons_succ]
          refine Rg.anyG_done (by kernel_rfl) ?_ _
          go_wp2_with fail
          go_ret
          refine ⟨by rw [HE2.out]; rfl, ⟨_, ⟨_, ?_, HX2.out⟩, fun k hk => hk.imp id (fun h => ⟨h.1, Nat.lt_of_lt_of_le h.2 HSZ2.out⟩)⟩, HF3.out⟩
          unfold noteL
          rw [HE2.out, if_pos rfl]
          exact put_p HXS.out _
    · have dn1 : decide (num n) = false := by simp [hn]
      have HEE : Hid (noteE l c n = 2) := mkH (by unfold noteE; rw [if_neg (by simpa using hc), if_pos hn])
      clear hc hn
      go_wp2_with (first
        | (go_at_call 76; refine (isMade_yes HX0.out.bx).mono ?_; rintro e1 w1 ⟨rfl, h⟩; have h2 := h.symm; clear h; subst h2)
        | (go_at_call 156; refine (isNumber_any _ _).mono ?_; rintro e1 w1 ⟨rfl, h⟩; have h2 := h.symm; clear h; subst h2))
      go_ret
      exact NoteP.err HEE.out (by decide) HT.out HG.out
  · have dc1 : decide (num c) = false := by simp [hc]
    have HEE : Hid (noteE l c n = 2) := mkH (by unfold noteE; rw [if_pos hc])
    clear hc
    go_wp2_with (first
      | (go_at_call 76; refine (isMade_yes HX0.out.bx).mono ?_; rintro e1 w1 ⟨rfl, h⟩; have h2 := h.symm; clear h; subst h2)
      | (go_at_call 156; refine (isNumber_any _ _).mono ?_; rintro e1 w1 ⟨rfl, h⟩; have h2 := h.symm; clear h; subst h2))
    go_ret
    exact NoteP.err HEE.out (by decide) HT.out HG.out
end Go.Proofs.YtgbbajeeelgbhaaGreatDoor.Sc

namespace Go.Proofs.YtgbbajeeelgbhaaGreatDoor.Sd
open Go.RowKit Kt Pl Wi Wk Wa Sm Sa Sb Sc
open Dk (Fr Nx)
open At (RowT)
set_option linter.unusedVariables false
set_option linter.unusedSimpArgs false
set_option maxRecDepth 20000

/-- What Look hands back and leaves. -/
def LookP (w : World) (l : List E) (c n : Int) (e : Ending) (w' : World) : Prop := ∃ ga gc da dc ra rc, e = .returned (.tuple #[.agg (Pv (lookR l c n) ga gc da dc ra rc), .bool (lookK l c n), .int .i64 (lookE l c n)]) ∧ RpM w' (lookR l c n) ga da ra ∧ Far (fun k => w.heap.size ≤ k) ga da ra ∧ Cnt (lookR l c n) ∧ Below w.heap.size w w'
theorem LookP.err {w w' : World} {l : List E} {c n e : Int} (hK : lookK l c n = false) (hE : lookE l c n = e) (hb : Below w.heap.size w w') : LookP w l c n (.returned (.tuple #[.agg ZP, .bool false, .int .i64 e])) w' := by
  have hR : lookR l c n = Rp.none := by unfold lookR; rw [hK]; rfl
  refine ⟨none, 0, none, 0, none, 0, by rw [hR, hK, hE]; rfl, ?_, ⟨fun a h => (by cases h), fun a h => (by cases h), fun a h => (by cases h)⟩, ?_, hb⟩
  · rw [hR]; exact ⟨RowS.nil _ _, fun h => by simp [Rp.none] at h, RowS.nil _ _⟩
  · rw [hR]; exact ⟨by simp [Rp.none], by simp [Rp.none], by simp [Rp.none]⟩
theorem one_ZP : ZP.all (fun x => x.oneCell') = true := Pv_one _ _ _ _ _ _ _
theorem infoZ : (Tryz.prog.info? 46).map (·.size) = some ZP.size := infoP
theorem ret_ctt {fn : Func} {R : Ending → World → Prop} {a : Act} {P : Program} {w : World} (p q s : Tmp) (ty : TypeId) (h : fn.results = #[.cell p ty, .tmp q, .tmp s]) (b : Nat) (hp : a.tmps.getD p undef = .pointer (some ⟨b, 0, none⟩)) {v y z : Value} (hq : a.tmps.getD q undef = y) (hs : a.tmps.getD s undef = z) (hl : (loadVar ty ⟨b, 0, none⟩).run P w = .ok v w) (hdf : a.defers = []) (hR : R (.returned (.tuple #[v, y, z])) w) : bodyPost P fn R .ret a w :=
  bodyPost_ret (v := .tuple #[v, y, z]) (res_ctt h _ _ _ hp hq hs hl) hdf hR

set_option maxHeartbeats 4000000 in
theorem look_any {w : World} {F : Nat → Prop} {T Mb : Nat} {l : List E} (ht : Tb w F T Mb l) (c n : Int) :
    Calls Tryz.prog 101 #[.pointer (some ⟨T, 0, none⟩), .int .i64 c, .int .i64 n] w fun e w' => LookP w l c n e w' := by
  obtain ⟨xs, hxs, hx⟩ := ht
  have HXS := mkH hxs
  have HX := mkH hx
  clear hxs hx
  go_enter Tryz.func101, Tryz.ntmps101
  go_wp2_with fail
  refine start1c (cs := ZP) (fun W0 hB hG hsz => ?_)
  have HB := mkH hB
  have HG := mkH hG
  have HX0 := mkH (HX.out.below hG)
  clear hB hG hsz HX
  by_cases hc : num c
  · have dc1 : decide (num c) = true := by simp [hc]
    by_cases hn : num n
    · have dn1 : decide (num n) = true := by simp [hn]
      have HCN := mkH (And.intro hc hn)
      have hcw := wf_num hc
      obtain ⟨A, hA7, hA1, hA0, -, hl1, r, ga, gc, da, dc, ra, rc, hAe, hrm, hcn, hrr⟩ := look_ans HX0.out HXS.out hcw
      obtain ⟨L, hL⟩ : ∃ L, lastN l c = L := ⟨_, rfl⟩
      rw [hL] at hA0 hAe
      have HEE : Hid (lookE l c n = if n < L then 16 else 0) := mkH (by
        unfold lookE
        rw [if_neg (by simpa using hc), if_neg (by simpa using hn), hL])
      have HKK : Hid (lookK l c n = decide (n = L)) := mkH (by
        unfold lookK
        rw [hL]
        simp [hc, hn])
      have HA0 := mkH hA0
      have HAI : Hid ((Tryz.prog.info? 150).map (·.size) = some A.size) := mkH (by rw [hA7]; exact infoA)
      have HAZ : Hid (zA7.size = A.size) := mkH (by rw [hA7]; rfl)
      have HA1 := mkH hA1
      have HAE := mkH hAe
      have HRM := mkH hrm
      have HCR := mkH hcn
      have HRR := mkH hrr
      have cT0 : W0.cell? ⟨T, 0, none⟩ = some (.map (some Mb)) := HX0.out.bx.cell 0
      clear hc hn hA7 hA1 hA0 hL hAe hrm hcn hrr
      by_cases hlt : n < L
      · have HE2 : Hid (lookE l c n = 16) := mkH (by rw [HEE.out, if_pos hlt])
        have HK2 : Hid (lookK l c n = false) := mkH (by rw [HKK.out]; simp; omega)
        go_wp2_with (first
          | (go_at_call 76; refine (isMade_yes HX0.out.bx).mono ?_; rintro e1 w1 ⟨rfl, h⟩; have h2 := h.symm; clear h; subst h2)
          | (go_at_call 156; refine (isNumber_any _ _).mono ?_; rintro e1 w1 ⟨rfl, h⟩; have h2 := h.symm; clear h; subst h2)
          | (refine wpList_stn rfl (ty := 150) (x := .tmp 9) (y := .tmp 30) (cs := A) (zs := zA7) rfl rfl rfl HAI.out HAZ.out HA1.out (fun W1 hB1 hg1 => ?_); have HB1 := mkH (And.intro hB1 hg1.below); have cL : W1.cell? ⟨W0.heap.size, 0, none⟩ = some (.int .i64 L) := (hB1.cell 0).trans HA0.out; clear hB1 hg1 hl1)
          | (refine wpList_st rfl (ty := 46) (x := .tmp 6) (y := .tmp 36) (cs := ZP) rfl rfl rfl (bx_bel HB.out HB1.out.2) infoZ rfl one_ZP ?_))
        refine ret_ctt 6 7 8 46 rfl w.heap.size rfl rfl rfl (load_bx (P := Tryz.prog) ((bx_bel HB.out HB1.out.2).row rfl) Tryz.underlying46 rfl infoZ) rfl ?_
        exact LookP.err HK2.out HE2.out (bel_setRow (HG.out.trans (HB1.out.2.mono HG.out.size)) (Nat.le_refl _) _)
      · by_cases hgt : L < n
        · have HE2 : Hid (lookE l c n = 0) := mkH (by rw [HEE.out, if_neg hlt])
          have HK2 : Hid (lookK l c n = false) := mkH (by rw [HKK.out]; simp; omega)
          go_wp2_with (first
            | (go_at_call 76; refine (isMade_yes HX0.out.bx).mono ?_; rintro e1 w1 ⟨rfl, h⟩; have h2 := h.symm; clear h; subst h2)
            | (go_at_call 156; refine (isNumber_any _ _).mono ?_; rintro e1 w1 ⟨rfl, h⟩; have h2 := h.symm; clear h; subst h2)
            | (refine wpList_stn rfl (ty := 150) (x := .tmp 9) (y := .tmp 30) (cs := A) (zs := zA7) rfl rfl rfl HAI.out HAZ.out HA1.out (fun W1 hB1 hg1 => ?_); have HB1 := mkH (And.intro hB1 hg1.below); have cL : W1.cell? ⟨W0.heap.size, 0, none⟩ = some (.int .i64 L) := (hB1.cell 0).trans HA0.out; clear hB1 hg1 hl1)
            | (refine wpList_st rfl (ty := 46) (x := .tmp 6) (y := .tmp 42) (cs := ZP) rfl rfl rfl (bx_bel HB.out HB1.out.2) infoZ rfl one_ZP ?_))
          refine ret_ctt 6 7 8 46 rfl w.heap.size rfl rfl rfl (load_bx (P := Tryz.prog) ((bx_bel HB.out HB1.out.2).row rfl) Tryz.underlying46 rfl infoZ) rfl ?_
          exact LookP.err HK2.out HE2.out (bel_setRow (HG.out.trans (HB1.out.2.mono HG.out.size)) (Nat.le_refl _) _)
        · have he : n = L := by omega
          have HE2 : Hid (lookE l c n = 0) := mkH (by rw [HEE.out, if_neg hlt])
          have HK2 : Hid (lookK l c n = true) := mkH (by rw [HKK.out]; simp [he])
          have HR2 : Hid (lookR l c n = r) := mkH (by unfold lookR; rw [HK2.out, if_pos rfl]; exact HRR.out.symm)
          have HAL : Hid (∀ W b, Bx W b A 150 → (loadVar 46 ⟨b, 1, none⟩).run Tryz.prog W = .ok (.agg (Pv r ga gc da dc ra rc)) W) := mkH (fun W b h => by
            have := run_load_agg (P := Tryz.prog) (w := W) 46 _ Tryz.underlying46 rfl b 1 (Pv r ga gc da dc ra rc).toList infoP (fun j v hv => by
              rw [h.cell, HAE.out]
              rcases j with _ | _ | _ | _ | _ | _ | j <;> first | exact hv | (simp [Pv] at hv))
            simpa using this)
          subst he
          go_wp2_with (first
            | (go_at_call 76; refine (isMade_yes HX0.out.bx).mono ?_; rintro e1 w1 ⟨rfl, h⟩; have h2 := h.symm; clear h; subst h2)
            | (go_at_call 156; refine (isNumber_any _ _).mono ?_; rintro e1 w1 ⟨rfl, h⟩; have h2 := h.symm; clear h; subst h2)
            | (refine wpList_stn rfl (ty := 150) (x := .tmp 9) (y := .tmp 30) (cs := A) (zs := zA7) rfl rfl rfl HAI.out HAZ.out HA1.out (fun W1 hB1 hg1 => ?_); have HB1 := mkH (And.intro hB1 hg1.below); have cL : W1.cell? ⟨W0.heap.size, 0, none⟩ = some (.int .i64 n) := (hB1.cell 0).trans HA0.out; clear hB1 hg1 hl1)
            | (refine Wy.wpList_ld (ty := 46) (x := .tmp 43) rfl rfl rfl (HAL.out _ _ HB1.out.1) ?_)
            | (go_at_call 157; refine (copyReply_any _ r ga gc da dc ra rc (HRM.out.below HB1.out.2) HCR.out).mono ?_; rintro e1 W2 ⟨g2, gc2, d2, dc2, r2, rc2, rfl, hr2, hf2, hb2⟩; have HB2 := mkH (bx_bel (bx_bel HB.out HB1.out.2) hb2); obtain ⟨D, hD⟩ : ∃ D, Pv r g2 gc2 d2 dc2 r2 rc2 = D := ⟨_, rfl⟩; rw [hD]; have HSF : Hid (ZP.size = D.size) := mkH (by rw [← hD]; rfl); have HIF : Hid ((Tryz.prog.info? 46).map (·.size) = some D.size) := mkH (by rw [← hD]; exact infoP); have HOF : Hid (D.all (fun x => x.oneCell') = true) := mkH (by rw [← hD]; exact Pv_one _ _ _ _ _ _ _); have HDF := mkH hD; have HBF := HB2; have HFF : Hid (Far (fun k => w.heap.size ≤ k) g2 d2 r2) := mkH (hf2.mono (fun k hk => Nat.le_trans (Nat.le_trans HG.out.size HB1.out.2.size) hk.1)); have hlo : ∀ a, (g2 = some a ∨ d2 = some a ∨ r2 = some a) → a.block ≠ w.heap.size := (fun a ha => by have h9 := HB.out.lt; have h8 := HB1.out.2.size; rcases ha with h | h | h; exact (by have := hf2.1 a h; simp only at this; omega); exact (by have := hf2.2.1 a h; simp only at this; omega); exact (by have := hf2.2.2 a h; simp only at this; omega)); have HRF : Hid (RpM (W2.setRow w.heap.size D) r g2 d2 r2) := mkH ⟨hr2.got.setRow (fun a h => hlo a (.inl h)) D, Wk.RowT.setRow hr2.data (fun a h => hlo a (.inr (.inl h))) D, hr2.about.setRow (fun a h => hlo a (.inr (.inr h))) D⟩; have HGF : Hid (Below w.heap.size w (W2.setRow w.heap.size D)) := mkH (bel_setRow ((HG.out.trans (HB1.out.2.mono HG.out.size)).trans (hb2.mono (Nat.le_trans HG.out.size HB1.out.2.size))) (Nat.le_refl _) _); clear hr2 hf2 hb2 hD hlo)
            | (refine wpList_st rfl (ty := 46) (x := .tmp 6) (y := .tmp 45) rfl rfl rfl HB2.out HIF.out HSF.out HOF.out ?_))
          refine ret_ctt 6 7 8 46 rfl w.heap.size rfl rfl rfl (load_bx (P := Tryz.prog) (HBF.out.row HSF.out) Tryz.underlying46 rfl HIF.out) rfl ?_
          exact ⟨g2, gc2, d2, dc2, r2, rc2, by rw [HE2.out, HK2.out, HR2.out, HDF.out]; rfl, by rw [HR2.out]; exact HRF.out, HFF.out, by rw [HR2.out]; exact HCR.out, HGF.out⟩
    · have dn1 : decide (num n) = false := by simp [hn]
      have HE2 : Hid (lookE l c n = 2) := mkH (by unfold lookE; rw [if_neg (by simpa using hc), if_pos hn])
      have HK2 : Hid (lookK l c n = false) := mkH (by unfold lookK; simp [hn])
      clear hc hn
      go_wp2_with (first
        | (go_at_call 76; refine (isMade_yes HX0.out.bx).mono ?_; rintro e1 w1 ⟨rfl, h⟩; have h2 := h.symm; clear h; subst h2)
        | (go_at_call 156; refine (isNumber_any _ _).mono ?_; rintro e1 w1 ⟨rfl, h⟩; have h2 := h.symm; clear h; subst h2)
        | (refine wpList_st rfl (ty := 46) (x := .tmp 6) (y := .tmp 24) (cs := ZP) rfl rfl rfl (HB.out) infoZ rfl one_ZP ?_))
      refine ret_ctt 6 7 8 46 rfl w.heap.size rfl rfl rfl (load_bx (P := Tryz.prog) (HB.out.row rfl) Tryz.underlying46 rfl infoZ) rfl ?_
      exact LookP.err HK2.out HE2.out (bel_setRow HG.out (Nat.le_refl _) _)
  · have dc1 : decide (num c) = false := by simp [hc]
    have HE2 : Hid (lookE l c n = 2) := mkH (by unfold lookE; rw [if_pos hc])
    have HK2 : Hid (lookK l c n = false) := mkH (by unfold lookK; simp [hc])
    clear hc
    go_wp2_with (first
      | (go_at_call 76; refine (isMade_yes HX0.out.bx).mono ?_; rintro e1 w1 ⟨rfl, h⟩; have h2 := h.symm; clear h; subst h2)
      | (go_at_call 156; refine (isNumber_any _ _).mono ?_; rintro e1 w1 ⟨rfl, h⟩; have h2 := h.symm; clear h; subst h2)
      | (refine wpList_st rfl (ty := 46) (x := .tmp 6) (y := .tmp 24) (cs := ZP) rfl rfl rfl (HB.out) infoZ rfl one_ZP ?_))
    refine ret_ctt 6 7 8 46 rfl w.heap.size rfl rfl rfl (load_bx (P := Tryz.prog) (HB.out.row rfl) Tryz.underlying46 rfl infoZ) rfl ?_
    exact LookP.err HK2.out HE2.out (bel_setRow HG.out (Nat.le_refl _) _)

set_option maxHeartbeats 1000000 in
theorem last_any {w : World} {F : Nat → Prop} {T Mb : Nat} {l : List E} (ht : Tb w F T Mb l) (c : Int) (hcw : (Lit.int .i64 c).wf = true) :
    Calls Tryz.prog 34 #[.pointer (some ⟨T, 0, none⟩), .int .i64 c] w fun e w' => e = .returned (.int .i64 (lastN l c)) ∧ w' = w := by
  obtain ⟨xs, hxs, hx⟩ := ht
  obtain ⟨A, hA7, hA1, hA0, -, hl1, r, ga, gc, da, dc, ra, rc, hAe, hrm, hcn, hrr⟩ := look_ans hx hxs hcw
  have HX := mkH hx
  have cT0 : w.cell? ⟨T, 0, none⟩ = some (.map (some Mb)) := hx.bx.cell 0
  obtain ⟨L, hL⟩ : ∃ L, lastN l c = L := ⟨_, rfl⟩
  rw [hL] at hAe ⊢
  rw [hAe] at hl1
  have hfi : ∀ W : World, (Instr.field 150 (.agg #[.int .i64 L, .int .i64 r.err, .int .i64 r.seq, .int .i64 r.n, .slice ga r.got.length gc, .slice da r.data.length dc, .slice ra r.about.length rc]) 0).run Tryz.prog W = .ok (.int .i64 L) W := fun _ => by kernel_rfl
  clear hxs hx hA7 hA1 hA0 hL hAe hrm hcn hrr
  go_enter Tryz.func34, Tryz.ntmps34
  go_wp2_with (first
    | (go_at_call 76; refine (isMade_yes HX.out.bx).mono ?_; rintro e1 w1 ⟨rfl, h⟩; have h2 := h.symm; clear h; subst h2))
  go_ret
  exact ⟨rfl, rfl⟩
end Go.Proofs.YtgbbajeeelgbhaaGreatDoor.Sd
