/-
  The walk of SeglogPlays.
-/
import Derived.Test.YtjfbhchpgmimfaaDoorJnB
import Derived.Test.YtjfbhchpgmimfaaDoorSgY
namespace Go.Proofs.YtjfbhchpgmimfaaDoor.Sgp
open Go.RowKit Kt Cs Cf Cv Ck Ca Dk Dp Da Db Dc Dd De Sq Sr Sa Sb Sc Se Sf Sk Sm St Su Sv Sw Pl Sx Sy Sra Srb Dr Dr2 Dr3 Sgc Sgd Sge Sgf Sgh Sgi Sgj Sgk
set_option linter.unusedVariables false
set_option linter.unusedSimpArgs false
set_option maxRecDepth 20000

theorem wrap_fit2 (n : Nat) (h : n ≤ 4194304) : IntKind.i64.wrap (n : Int) = (n : Int) := by
  simp [IntKind.wrap, IntKind.bits, IntKind.signed]
  omega
theorem rsegs_pp {w1 : World} {P : Nat → Prop} {w : World} {B R : Nat} {h t : H} (hp : Pp w1 P w B R h t) : ∃ sa scap, w.cell? ⟨R, 1, none⟩ = some (.slice sa t.segs.length scap) ∧ w.cell? ⟨R, 2, none⟩ = some (.bool t.dn.isSome) ∧ ∀ k s, t.segs[k]? = some s → ∃ g off E ka kc ra rc, sa = some ⟨g, off, none⟩ ∧ w.cell? ⟨R, 1, none⟩ = some (.slice (some ⟨g, off, none⟩) t.segs.length scap) ∧ w.cell? ⟨g, off + k, none⟩ = some (.pointer (some ⟨E, 0, none⟩)) ∧ w.cell? ⟨E, 0, none⟩ = some (.slice ka (dst t.dn s).kept.length kc) ∧ w.cell? ⟨E, 1, none⟩ = some (.slice ra (dst t.dn s).rest.length rc) ∧ Row w ka (dst t.dn s).kept ∧ (dst t.dn s).kept.length + (dst t.dn s).rest.length ≤ 4194304 := by
  obtain ⟨F, G, -, ⟨v, FD, Ps, h1, h2⟩, -⟩ := hp.lg
  obtain ⟨sa, scap, rfl, -⟩ := h1.row.form
  have hpl : Ps.length = t.segs.length := by have := h2.1; simpa using this
  have c1 := h1.c1
  rw [hpl] at c1
  refine ⟨sa, scap, c1, h1.c2, fun k s hs => ?_⟩
  obtain ⟨E, g, off, rfl, hc, -, G2, ⟨hle, ka, kc, ra, rc, hrw⟩, -⟩ := rg_seg h1 h2 (i := k) (s := dst t.dn s) (by rw [List.getElem?_map, hs]; rfl)
  exact ⟨g, off, E, ka, kc, ra, rc, rfl, c1, hc, hrw.c0, hrw.c1, hrw.k.1, hle⟩
theorem nd_at {w w' : World} {da : Option Addr} {n dc : Nat} {FD : Nat → Prop} {Ps : List Nat} {ss : List St} (h : Nd w w' (.slice da n dc) FD Ps ss) {k D : Nat} (hD : Ps[k]? = some D) : ∃ dg, da = some ⟨dg, 0, none⟩ ∧ w'.cell? ⟨dg, k, none⟩ = some (.pointer (some ⟨D, 0, none⟩)) := by
  have hk : k < Ps.length := (List.getElem?_eq_some_iff.1 hD).1
  rcases h.own.2 with ⟨_, h0⟩ | ⟨g, c, cur, e, e2, e3, e4⟩
  · omega
  · simp only [Value.slice.injEq] at e
    obtain ⟨rfl, rfl, rfl⟩ := e
    refine ⟨g, rfl, ?_⟩
    have := h.own.cells (g := g) rfl k _ (Pt_at hD)
    rwa [Addr.add_lit, Nat.zero_add] at this
theorem Pp.start (w w1 w2 : World) (hT : Tb w) (per : Nat) (h1 : Lg w1 (fun k => k = w.heap.size) w.heap.size ⟨per, [], 0, none⟩) (hb1 : Below w.heap.size w w1) (h2 : Rg w2 (fun k => k = w1.heap.size) w1.heap.size ⟨per, [], 0, none⟩) (hb2 : Below w1.heap.size w1 w2) : Pp w (fun k => k < w.heap.size) w2 w.heap.size w1.heap.size ⟨per, [], 0, none⟩ ⟨per, [], 0, none⟩ := by
  have hs : w.heap.size < w1.heap.size := h1.lt _ rfl
  refine ⟨⟨_, _, h1.below hb2, h2, fun k hk hg => by omega, fun k hk hx => by omega, fun k hk hx => by omega⟩, Fr.ofBelow (hb1.trans (hb2.mono hb1.size)), fun k hk => hk, hT.size, hT⟩

set_option maxHeartbeats 40000000 in
theorem splays_any (w : World) (hT : Tb w) (per : Int) (ao : Option Addr) (cap : Nat) (l : List Ac) (hr : RowA w ao l) (hl : l.length ≤ cap) (hc : cap ≤ 9223372036854775807) :
    Calls Tryd.prog 3 #[.int .i64 per, .slice ao l.length cap] w fun e w' => e = .returned (.bool true) ∧ Below w.heap.size w w' := by
  have kc0 := fun (w : World) (C : Array Value) (n c : Nat) => Lib.run_convert_bytes_const (P := Tryd.prog) w 30 5 C n c Tryd.underlying30 Tryd.underlying5
  have KC := mkH kc0
  have HT := mkH hT
  have HR := mkH hr
  clear kc0 hr hT
  by_cases hper : per < 1 ∨ 1024 < per
  · go_enter Tryd.func3, Tryd.ntmps3
    go_wp2_with fail
    refine (Sa.new_bad w per hper).mono ?_
    rintro e w1 ⟨rfl, hw⟩
    have hw2 := hw.symm
    subst hw2
    clear hw
    go_wp2_with fail
    refine (rnew_bad w per hper).mono ?_
    rintro e w1 ⟨rfl, hw⟩
    have hw2 := hw.symm
    subst hw2
    clear hw hper
    go_wp2_with fail
    go_loopw [5, 9] (fun lv iv W => lv = .pointer none ∧ iv = .int .i64 0 ∧ w = W) (fun _ _ _ => 0)
    case atStart => exact ⟨rfl, rfl, rfl⟩
    case round =>
      obtain ⟨rfl, rfl, hw⟩ := hrel
      subst hw
      obtain ⟨n, hn⟩ : ∃ n, l.length = n := ⟨_, rfl⟩
      rw [hn] at hl ⊢
      by_cases hn0 : n = 0
      · subst hn0
        go_wp2_with fail
        refine (works_any w HT.out).mono ?_
        rintro e w9 ⟨rfl, hb9⟩
        have HB9 := mkH hb9
        clear hb9
        go_wp2
        go_ret
        exact ⟨rfl, HB9.out⟩
      · have hn1 : 0 < n := by omega
        clear hn
        go_wp2_with fail
        refine (works_any w HT.out).mono ?_
        rintro e w9 ⟨rfl, hb9⟩
        have HB9 := mkH hb9
        clear hb9
        go_wp2
        go_ret
        exact ⟨rfl, HB9.out⟩
  · obtain ⟨p, rfl⟩ : ∃ p : Nat, per = (p : Int) := ⟨per.toNat, by omega⟩
    have hp1 : 1 ≤ p := by omega
    have hp2 : p ≤ 1024 := by omega
    clear hper
    go_enter Tryd.func3, Tryd.ntmps3
    go_wp2_with fail
    refine (Sa.new_any w p hp1 hp2).mono ?_
    rintro e w1 ⟨rfl, h1, hb1⟩
    have H1 := mkH h1
    have HB1 := mkH hb1
    clear h1 hb1
    go_wp2_with fail
    refine (rnew_any w1 p hp1 hp2).mono ?_
    rintro e w2 ⟨rfl, h2, hb2⟩
    have HST := mkH (Pp.start w w1 w2 HT.out p H1.out HB1.out h2 hb2)
    have HI0 := mkH (inv_new hp1 hp2)
    obtain ⟨B, hB⟩ : ∃ B, w.heap.size = B := ⟨_, rfl⟩
    obtain ⟨R, hR⟩ : ∃ R, w1.heap.size = R := ⟨_, rfl⟩
    have HST : Hid (Pp w (fun k => k < w.heap.size) w2 B R ⟨p, [], 0, none⟩ ⟨p, [], 0, none⟩) := by unfold Hid; rw [← hB, ← hR]; exact HST.out
    rw [hB, hR]
    clear h2 hb2 H1 HB1 hB hR
    go_wp2_with fail
    go_loopw [5, 9] (fun lv iv W => ∃ j : Nat, j ≤ l.length ∧ j ≤ 60 ∧ iv = .int .i64 j ∧ ∃ B h, lv = .pointer (some ⟨B, 0, none⟩) ∧ Hid (Pp w (fun k => k < w.heap.size) W B R h h ∧ Inv j h)) (fun _ iv _ => 60 - (intOf iv).toNat)
    case atStart => exact ⟨0, by omega, by omega, rfl, B, _, rfl, HST.out, HI0.out⟩
    case round =>
      clear HST HI0
      obtain ⟨j, hj, hj60, rfl, B, h, rfl, HP⟩ := hrel
      have HBW := mkH (HP.out.1.toBelow (fun k hk => hk))
      by_cases hj1 : j = l.length ∨ j = 60
      · have hj0 : j = l.length ∨ (j = 60 ∧ j < l.length) := by omega
        clear hj1
        rcases hj0 with h1 | ⟨h1, h2⟩
        · subst h1
          go_wp2_with fail
          refine (works_any wr HP.out.1.tbw).mono ?_
          rintro e w9 ⟨rfl, hb9⟩
          go_wp2
          go_ret
          exact ⟨rfl, HBW.out.trans (hb9.mono HBW.out.size)⟩
        · subst h1
          go_wp2_with fail
          refine (works_any wr HP.out.1.tbw).mono ?_
          rintro e w9 ⟨rfl, hb9⟩
          go_wp2
          go_ret
          exact ⟨rfl, HBW.out.trans (hb9.mono HBW.out.size)⟩
      · have hjl : j < l.length := by omega
        have hj8 : j < 60 := by omega
        obtain ⟨b, off0, ⟨kd, n, fl, xa, xc, xb⟩, rfl, ⟨hrow, hxl, hxc, hxf⟩, c0, c1, c2, c3⟩ := (HR.out.below HBW.out).at j hjl
        simp only at hrow hxl hxc hxf c0 c1 c2 c3
        have hend : ∀ W D, (∃ s, Pp w (fun k => k < w.heap.size) W D R s s ∧ Inv (j + 1) s) → ∃ i : Nat, i ≤ l.length ∧ i ≤ 60 ∧ Value.int .i64 ((j : Int) + 1) = .int .i64 (i : Int) ∧ ∃ D' s, Value.pointer (some ⟨D, 0, none⟩) = .pointer (some ⟨D', 0, none⟩) ∧ Hid (Pp w (fun k => k < w.heap.size) W D' R s s ∧ Inv i s) := fun W D ⟨s, hW, hI⟩ => ⟨j + 1, by omega, by omega, by go_num, D, s, rfl, hW, hI⟩
        have HEND := mkH hend
        have HX := mkH hrow
        clear hj1 hrow hend
        by_cases h5 : kd = 5
        · subst h5
          go_wp2_with fail
          refine (copy_pp HP.out.1 HP.out.2).mono ?_
          rintro e w3 ⟨rfl, hc3, hb3⟩
          have HB3 := mkH hb3
          have HM3 := mkH (HP.out.1.more hb3)
          obtain ⟨B3, hC⟩ : ∃ B3, wr.heap.size = B3 := ⟨_, rfl⟩
          have HC3 : Hid (Lg w3 (fun k => wr.heap.size ≤ k ∧ k < w3.heap.size) B3 h) := by unfold Hid; rw [← hC]; exact hc3
          rw [hC]
          have kc0 := KC.out
          clear hc3 hb3 c0 c1 c2 c3 hC
          go_wp2_with fail
          refine (append_pp (HM3.out.below (below_alloc w3 _)) HP.out.2 (by omega) _ 2 [122, 122] (Df.row_new w3 [122, 122] _ rfl _ _) (by decide)).mono ?_
          rintro e w5 ⟨rfl, h5⟩
          have H5 := mkH h5
          have HI5 := mkH (inv_ap (r := [122, 122]) HP.out.2 (by omega) (by decide))
          generalize apE h = E5
          generalize apN h = N5
          clear h5 kc0 HM3
          go_wp2_with fail
          refine (crash_pp H5.out HI5.out 0 0 (by omega)).mono ?_
          rintro e w6 ⟨rfl, h6⟩
          have hpr := Pp.swap HP.out.1 HB3.out HC3.out h6
          generalize crE _ 0 = E6
          obtain ⟨h3, hs3⟩ : ∃ h3, h = h3 := ⟨_, rfl⟩
          have hi3 := Inv.more HP.out.2 (show j ≤ j + 1 by omega)
          rw [hs3] at hpr hi3
          clear h6 H5 HC3 HB3 HP hs3 HI5
          have HW7 := mkH hpr
          have HI3 := mkH hi3
          have hp1 := hi3.p1
          clear hpr hi3
          go_wp2_with fail
          refine (all_pp HW7.out HI3.out (by omega)).mono ?_
          rintro e w8 ⟨ra0, rc0, rl0, rfl, hol, hmap, hb8⟩
          have hrr := Ol.rr hol
          rw [hmap] at hrr
          have hp8 := HW7.out.below hb8
          obtain ⟨AL, hAL⟩ : ∃ AL, (all (es h3)).length = AL := ⟨_, rfl⟩
          have hALb : AL ≤ 1000000 := by rw [← hAL]; have := es_len HI3.out; omega
          obtain ⟨dd, hdd⟩ : ∃ dd, h3.dn.isSome = dd := ⟨_, rfl⟩
          obtain ⟨sa, scap, s1, s2, s3⟩ := rsegs_pp hp8
          rw [hdd] at s2
          have HKD : Hid (∀ W, Below w8.heap.size w8 W → W.cell? ⟨R, 2, none⟩ = some (.bool dd)) := fun W hW => by rw [hW.cell (p := ⟨R, 2, none⟩) (World.block_lt_of_cell? w8 _ s2)]; exact s2
          have HREC : Hid (∀ W, Below w8.heap.size w8 W → Calls Tryd.prog 17 #[.pointer (some ⟨R, 0, none⟩)] W fun e w' => ∃ a c, e = .returned (.slice a AL c) ∧ Rr w' a (all (es h3)) ∧ Below W.heap.size W w') := fun W hW => by
            refine (rrecords_pp (hp8.below hW) HI3.out (by omega)).mono ?_
            rintro e w' ⟨a, c, l2, rfl, x1, x2, x3⟩
            have x4 := Ol.rr x1
            rw [x2] at x4
            exact ⟨a, c, by rw [hAL], x4, x3⟩
          have HALK : Hid (∀ W a2 c2, Below w8.heap.size w8 W → Rr W a2 (all (es h3)) → Calls Tryd.prog 16 #[.slice ra0 AL rc0, .slice a2 AL c2] W fun e w' => e = .returned (.bool true) ∧ Below W.heap.size W w') := fun W a2 c2 hW h2 => by
            have := alike_any W ra0 a2 rc0 c2 (all (es h3)) (hrr.below hW) h2 (by omega)
            rw [hAL] at this
            exact this
          have HDWN : Hid (∀ W, Below w8.heap.size w8 W → Calls Tryd.prog 18 #[.pointer (some ⟨B3, 0, none⟩)] W fun e w' => e = .returned (.bool dd) ∧ w' = W) := fun W hW => by
            have := down_pp (hp8.below hW) hp1
            rw [hdd] at this
            exact this
          obtain ⟨b0, hb0⟩ : ∃ b0, nb h3 = b0 := ⟨_, rfl⟩
          obtain ⟨n0, hn0⟩ : ∃ n0, nn h3 = n0 := ⟨_, rfl⟩
          obtain ⟨f0, hf0⟩ : ∃ f0, ns h3 = f0 := ⟨_, rfl⟩
          have HBAS : Hid (∀ W, Below w8.heap.size w8 W → Calls Tryd.prog 19 #[.pointer (some ⟨B3, 0, none⟩)] W fun e w' => e = .returned (.int .i64 (b0 : Int)) ∧ w' = W) := fun W hW => by
            have := base_pp (hp8.below hW) hp1; rw [hb0] at this; exact this
          have HLEN : Hid (∀ W, Below w8.heap.size w8 W → Calls Tryd.prog 21 #[.pointer (some ⟨B3, 0, none⟩)] W fun e w' => e = .returned (.int .i64 (n0 : Int)) ∧ w' = W) := fun W hW => by
            have := len_pp (hp8.below hW) hp1; rw [hn0] at this; exact this
          have HSAF : Hid (∀ W, Below w8.heap.size w8 W → Calls Tryd.prog 23 #[.pointer (some ⟨B3, 0, none⟩)] W fun e w' => e = .returned (.int .i64 (f0 : Int)) ∧ w' = W) := fun W hW => by
            have := safe_pp (hp8.below hW) hp1; rw [hf0] at this; exact this
          have HRBA : Hid (∀ W, Below w8.heap.size w8 W → Calls Tryd.prog 20 #[.pointer (some ⟨R, 0, none⟩)] W fun e w' => e = .returned (.int .i64 (b0 : Int)) ∧ Below W.heap.size W w') := fun W hW => by
            have := rbase_pp (hp8.below hW) HI3.out; rw [hb0] at this; exact this
          have HRLE : Hid (∀ W, Below w8.heap.size w8 W → Calls Tryd.prog 22 #[.pointer (some ⟨R, 0, none⟩)] W fun e w' => e = .returned (.int .i64 (n0 : Int)) ∧ Below W.heap.size W w') := fun W hW => by
            have := rlen_pp (hp8.below hW) HI3.out (by omega); rw [hn0] at this; exact this
          have HRSA : Hid (∀ W, Below w8.heap.size w8 W → Calls Tryd.prog 24 #[.pointer (some ⟨R, 0, none⟩)] W fun e w' => e = .returned (.int .i64 (f0 : Int)) ∧ Below W.heap.size W w') := fun W hW => by
            have := rsafe_pp (hp8.below hW) HI3.out (by omega); rw [hf0] at this; exact this
          have HP8 := mkH hp8
          have hcur0 : Below w8.heap.size w8 w8.drew := below_drewN (Below.refl _ _) 1
          rw [hAL]
          clear hol hmap hb8 hrr hp8 s1 s2 s3 HW7 hAL hb0 hn0 hf0 hdd
          go_wp2_with fail
          go_region_held3 (fun W => W.cell? ⟨R, 2, none⟩ = some (.bool dd)) (first | exact hkeep5 | exact hkeep4 | exact hkeep3 | exact hkeep2 | exact hkeep1 | exact HKD.out _ hcur0) (first
            | (go_at_call 17; refine (HREC.out _ hcur0).mono ?_; rintro e x1 ⟨qa, qc, rfl, hq1, hbq⟩; have hcur1 := hcur0.trans (hbq.mono hcur0.size); have hkeep1 := HKD.out _ hcur1)
            | (go_at_call 16; refine (HALK.out _ qa qc hcur1 hq1).mono ?_; rintro e x2 ⟨rfl, hbq2⟩; have hcur2 := hcur1.trans (hbq2.mono hcur1.size); have hkeep2 := HKD.out _ hcur2)
            | (go_at_call 18; refine (HDWN.out _ hcur2).mono ?_; rintro e x3 ⟨rfl, hx3⟩; have hx3' := hx3.symm; subst hx3'; clear hx3)
            | (go_at_call 19; refine (HBAS.out _ hcur2).mono ?_; rintro e x4 ⟨rfl, hx4⟩; have hx4' := hx4.symm; subst hx4'; clear hx4)
            | (go_at_call 20; refine (HRBA.out _ hcur2).mono ?_; rintro e x5 ⟨rfl, hb5⟩; have hcur3 := hcur2.trans (hb5.mono hcur2.size); have hkeep3 := HKD.out _ hcur3)
            | (go_at_call 21; refine (HLEN.out _ hcur3).mono ?_; rintro e x6 ⟨rfl, hx6⟩; have hx6' := hx6.symm; subst hx6'; clear hx6)
            | (go_at_call 22; refine (HRLE.out _ hcur3).mono ?_; rintro e x7 ⟨rfl, hb7⟩; have hcur4 := hcur3.trans (hb7.mono hcur3.size); have hkeep4 := HKD.out _ hcur4)
            | (go_at_call 23; refine (HSAF.out _ hcur4).mono ?_; rintro e x8 ⟨rfl, hx8⟩; have hx8' := hx8.symm; subst hx8'; clear hx8)
            | (go_at_call 24; refine (HRSA.out _ hcur4).mono ?_; rintro e x9 ⟨rfl, hb9⟩; have hcur5 := hcur4.trans (hb9.mono hcur4.size); have hkeep5 := HKD.out _ hcur5))
          have HP9 := mkH (HP8.out.below hcur5)
          clear hcur0 hcur1 hcur2 hcur3 hcur4 hcur5 hkeep1 hkeep2 hkeep3 hkeep4 hkeep5 hq1 hbq hbq2 hb5 hb7 hb9 HREC HALK HDWN HBAS HLEN HSAF HRBA HRLE HRSA HKD HP8
          go_wp2_with fail
          refine (segments_pp HP9.out HI3.out).mono ?_
          rintro e w10 ⟨v10, FD, Ps, rfl, hnd⟩
          obtain ⟨da, dc, rfl⟩ := own_form hnd.own
          have hp10 := HP9.out.below hnd.below
          obtain ⟨sa, scap, s1, s2, s3⟩ := rsegs_pp hp10
          obtain ⟨n, hn⟩ : ∃ n, h3.segs.length = n := ⟨_, rfl⟩
          have hpl : Ps.length = n := by have := hnd.sk.1; rw [List.length_map, hn] at this; exact this
          have hn6 : n ≤ 256 := by rw [← hn]; exact HI3.out.n
          rw [hn] at s1
          rw [hpl]
          have HND := mkH hnd
          have HP10 := mkH hp10
          have HSG := mkH s3
          have HPL := mkH hpl
          have HN := mkH hn
          clear hnd hp10 s2 s3 hpl hn HP9
          go_wp2_with fail
          go_loopw [130] (fun kv W => ∃ k : Nat, k ≤ n ∧ kv = .int .i64 k ∧ Hid (Below w10.heap.size w10 W)) (fun kv _ => n - (intOf kv).toNat)
          case atStart => exact ⟨0, Nat.zero_le _, rfl, Below.refl _ _⟩
          case round =>
            obtain ⟨k, hk, rfl, HB⟩ := hrel
            clear s1
            by_cases hkn : k = n
            · subst hkn
              have HPE := mkH (HP10.out.below HB.out)
              clear HP10 HND
              go_wp2_with fail
              exact ⟨HEND.out _ _ ⟨_, HPE.out, HI3.out⟩, by simp [intOf]; omega⟩
            · have hkl : k < n := by omega
              obtain ⟨s, hs⟩ := nth (l := h3.segs) (j := k) (by rw [HN.out]; exact hkl)
              obtain ⟨D, hD⟩ := nth (l := Ps) (j := k) (by rw [HPL.out]; exact hkl)
              obtain ⟨dg, rfl, u1⟩ := nd_at HND.out hD
              obtain ⟨G, hG, -, -⟩ := HND.out.sk.at (fun q hq => (HND.out.fd q hq).2) hD (by rw [List.getElem?_map, hs]; rfl)
              obtain ⟨g, off, E, ka, kc, ra, rc, rfl, u2, u3, u4, u5, u6, u7⟩ := HSG.out k s hs
              rw [HN.out] at u2
              obtain ⟨kl, hkl2⟩ : ∃ kl, (dst h3.dn s).kept.length = kl := ⟨_, rfl⟩
              obtain ⟨rl, hrl2⟩ : ∃ rl, (dst h3.dn s).rest.length = rl := ⟨_, rfl⟩
              obtain ⟨sk, hsk⟩ : ∃ sk, S (dst h3.dn s).kept = sk := ⟨_, rfl⟩
              have HKS : Hid (∀ W, Below w10.heap.size w10 W → W.cell? ⟨dg, k, none⟩ = some (.pointer (some ⟨D, 0, none⟩)) ∧ W.cell? ⟨R, 1, none⟩ = some (.slice (some ⟨g, off, none⟩) n scap) ∧ W.cell? ⟨g, off + k, none⟩ = some (.pointer (some ⟨E, 0, none⟩)) ∧ W.cell? ⟨E, 0, none⟩ = some (.slice ka kl kc) ∧ W.cell? ⟨E, 1, none⟩ = some (.slice ra rl rc) ∧ (convert 30 9 (.slice ka kl kc)).run Tryd.prog W = .ok (.string sk) W) := fun W hW => by
                have y6 := Dst.strW0 (u6.below hW) kc
                rw [hkl2, hsk] at y6
                refine ⟨?_, ?_, ?_, ?_, ?_, y6⟩
                · rw [hW.cell (p := ⟨dg, k, none⟩) (World.block_lt_of_cell? w10 _ u1)]; exact u1
                · rw [hW.cell (p := ⟨R, 1, none⟩) (World.block_lt_of_cell? w10 _ u2)]; exact u2
                · rw [hW.cell (p := ⟨g, off + k, none⟩) (World.block_lt_of_cell? w10 _ u3)]; exact u3
                · rw [hW.cell (p := ⟨E, 0, none⟩) (World.block_lt_of_cell? w10 _ u4), u4, hkl2]
                · rw [hW.cell (p := ⟨E, 1, none⟩) (World.block_lt_of_cell? w10 _ u5), u5, hrl2]
              obtain ⟨sz, hsz⟩ : ∃ sz, kl + rl = sz := ⟨_, rfl⟩
              have HKPT : Hid (∀ W, Below w10.heap.size w10 W → Calls Tryd.prog 26 #[.pointer (some ⟨D, 0, none⟩)] W fun e w' => ∃ na nc, e = .returned (.slice na (dst h3.dn s).kept.length nc) ∧ Row w' na (dst h3.dn s).kept ∧ Below W.heap.size W w') := fun W hW => by
                refine (Dc.kept_any (hG.below hW)).mono ?_
                rintro e w' ⟨v, rfl, ⟨na, nc, rfl, -, -, hnr, -⟩, hnb⟩
                exact ⟨na, nc, rfl, hnr, hnb⟩
              have HSIZ : Hid (∀ W, Below w10.heap.size w10 W → Calls Tryd.prog 27 #[.pointer (some ⟨D, 0, none⟩)] W fun e w' => e = .returned (.int .i64 (sz : Int)) ∧ w' = W) := fun W hW => by
                have := Da.size_any (hG.below hW)
                rw [hkl2, hrl2, hsz] at this
                exact this
              have HKL := mkH hkl2
              have HSTR := mkH hsk
              have esz : (kl : Int) + (rl : Int) = (sz : Int) := by omega
              have hkrl : sz ≤ 4194304 := by rw [← hsz, ← hkl2, ← hrl2]; exact u7
              have ewr : IntKind.i64.wrap (sz : Int) = (sz : Int) := wrap_fit2 sz hkrl
              have hcur : Below w10.heap.size w10 wr.drew := below_drewN HB.out 1
              clear hs hD u1 hG u2 u3 u4 u5 u6 u7 hkl2 hrl2 hsk hsz hkn
              go_wp2_with fail
              refine wp_region_held_drew (S := fun W => W.cell? ⟨dg, k, none⟩ = some (.pointer (some ⟨D, 0, none⟩)) ∧ W.cell? ⟨R, 1, none⟩ = some (.slice (some ⟨g, off, none⟩) n scap) ∧ W.cell? ⟨g, off + k, none⟩ = some (.pointer (some ⟨E, 0, none⟩)) ∧ W.cell? ⟨E, 0, none⟩ = some (.slice ka kl kc) ∧ W.cell? ⟨E, 1, none⟩ = some (.slice ra rl rc) ∧ (convert 30 9 (.slice ka kl kc)).run Tryd.prog W = .ok (.string sk) W) (by kernel_rfl) ?_ (fun hHeld => ?_)
              · exact HKS.out _ hcur
              refine wpAnyH_take (i := 0) (oi := { dst := some 133, op := _, type := _, pos := _, after := _, guard := _ }) (v := ?_) rfl (by kernel_rfl) (by kernel_rfl) (by kernel_rfl) (fun _ _ _ h => h) (Or.inl ⟨by rfl, ?_⟩) (by assumption) ?_
              rotate_left
              · (intro W hSw; (try dsimp only at hSw); go_simp; try (with_reducible rfl))
              try simp only [Act.put, List.setIfInBounds_toArray, List.set_cons_zero, List.set_cons_succ]
              refine wpAnyH_take (i := 1) (oi := { dst := some 134, op := _, type := _, pos := _, after := _, guard := _ }) (v := ?_) rfl (by kernel_rfl) (by kernel_rfl) (by kernel_rfl) (fun _ _ _ h => h) (Or.inl ⟨by rfl, ?_⟩) (by assumption) ?_
              rotate_left
              · (intro W hSw; (try dsimp only at hSw); go_simp; try (with_reducible rfl))
              try simp only [Act.put, List.setIfInBounds_toArray, List.set_cons_zero, List.set_cons_succ]
              refine wpAnyH_take (i := 2) (oi := { dst := some 135, op := _, type := _, pos := _, after := _, guard := _ }) (v := ?_) rfl (by kernel_rfl) (by kernel_rfl) (by kernel_rfl) (fun _ _ _ h => h) (Or.inl ⟨by rfl, ?_⟩) (by assumption) ?_
              rotate_left
              · (intro W hSw; (try dsimp only at hSw); go_simp; try (with_reducible rfl))
              try simp only [Act.put, List.setIfInBounds_toArray, List.set_cons_zero, List.set_cons_succ]
              refine wpAnyH_take (i := 3) (oi := { dst := some 136, op := _, type := _, pos := _, after := _, guard := _ }) (v := ?_) rfl (by kernel_rfl) (by kernel_rfl) (by kernel_rfl) (fun _ _ _ h => h) (Or.inl ⟨by rfl, ?_⟩) (by assumption) ?_
              rotate_left
              · (intro W hSw; (try dsimp only at hSw); go_simp; try (with_reducible rfl))
              try simp only [Act.put, List.setIfInBounds_toArray, List.set_cons_zero, List.set_cons_succ]
              refine wpAnyH_take (i := 6) (oi := { dst := some 139, op := _, type := _, pos := _, after := _, guard := _ }) (v := ?_) rfl (by kernel_rfl) (by kernel_rfl) (by kernel_rfl) (fun _ _ _ h => h) (Or.inl ⟨by rfl, ?_⟩) (by assumption) ?_
              rotate_left
              · (intro W hSw; (try dsimp only at hSw); go_simp; try (with_reducible rfl))
              try simp only [Act.put, List.setIfInBounds_toArray, List.set_cons_zero, List.set_cons_succ]
              refine wpAnyH_take (i := 7) (oi := { dst := some 140, op := _, type := _, pos := _, after := _, guard := _ }) (v := ?_) rfl (by kernel_rfl) (by kernel_rfl) (by kernel_rfl) (fun _ _ _ h => h) (Or.inl ⟨by rfl, ?_⟩) (by assumption) ?_
              rotate_left
              · (intro W hSw; (try dsimp only at hSw); go_simp; try (with_reducible rfl))
              try simp only [Act.put, List.setIfInBounds_toArray, List.set_cons_zero, List.set_cons_succ]
              refine wpAnyH_take (i := 8) (oi := { dst := some 141, op := _, type := _, pos := _, after := _, guard := _ }) (v := ?_) rfl (by kernel_rfl) (by kernel_rfl) (by kernel_rfl) (fun _ _ _ h => h) (Or.inl ⟨by rfl, ?_⟩) (by assumption) ?_
              rotate_left
              · (intro W hSw; (try dsimp only at hSw); go_simp; try (with_reducible rfl))
              try simp only [Act.put, List.setIfInBounds_toArray, List.set_cons_zero, List.set_cons_succ]
              refine wpAnyH_take (i := 9) (oi := { dst := some 142, op := _, type := _, pos := _, after := _, guard := _ }) (v := ?_) rfl (by kernel_rfl) (by kernel_rfl) (by kernel_rfl) (fun _ _ _ h => h) (Or.inl ⟨by rfl, ?_⟩) (by assumption) ?_
              rotate_left
              · (intro W hSw; (try dsimp only at hSw); go_simp; try (with_reducible rfl))
              try simp only [Act.put, List.setIfInBounds_toArray, List.set_cons_zero, List.set_cons_succ]
              refine wpAnyH_take (i := 10) (oi := { dst := some 143, op := _, type := _, pos := _, after := _, guard := _ }) (v := ?_) rfl (by kernel_rfl) (by kernel_rfl) (by kernel_rfl) (fun _ _ _ h => h) (Or.inl ⟨by rfl, ?_⟩) (by assumption) ?_
              rotate_left
              · (intro W hSw; (try dsimp only at hSw); go_simp; try (with_reducible rfl))
              try simp only [Act.put, List.setIfInBounds_toArray, List.set_cons_zero, List.set_cons_succ]
              refine wpAnyH_take (i := 11) (oi := { dst := some 144, op := _, type := _, pos := _, after := _, guard := _ }) (v := ?_) rfl (by kernel_rfl) (by kernel_rfl) (by kernel_rfl) (fun _ _ _ h => h) (Or.inl ⟨by rfl, ?_⟩) (by assumption) ?_
              rotate_left
              · (intro W hSw; (try dsimp only at hSw); go_simp; try (with_reducible rfl))
              try simp only [Act.put, List.setIfInBounds_toArray, List.set_cons_zero, List.set_cons_succ]
              refine wpAnyH_take (i := 12) (oi := { dst := some 145, op := _, type := _, pos := _, after := _, guard := _ }) (v := ?_) rfl (by kernel_rfl) (by kernel_rfl) (by kernel_rfl) (fun _ _ _ h => h) (Or.inl ⟨by rfl, ?_⟩) (by assumption) ?_
              rotate_left
              · (intro W hSw; (try dsimp only at hSw); go_simp; try (with_reducible rfl))
              try simp only [Act.put, List.setIfInBounds_toArray, List.set_cons_zero, List.set_cons_succ]
              refine wpAnyH_take (i := 13) (oi := { dst := some 146, op := _, type := _, pos := _, after := _, guard := _ }) (v := ?_) rfl (by kernel_rfl) (by kernel_rfl) (by kernel_rfl) (fun _ _ _ h => h) (Or.inl ⟨by rfl, ?_⟩) (by assumption) ?_
              rotate_left
              · (intro W hSw; (try dsimp only at hSw); go_simp; try (with_reducible rfl))
              try simp only [Act.put, List.setIfInBounds_toArray, List.set_cons_zero, List.set_cons_succ]
              refine wpAnyH_take (i := 14) (oi := { dst := some 147, op := _, type := _, pos := _, after := _, guard := _ }) (v := ?_) rfl (by kernel_rfl) (by kernel_rfl) (by kernel_rfl) (fun _ _ _ h => h) (Or.inl ⟨by rfl, ?_⟩) (by assumption) ?_
              rotate_left
              · (intro W hSw; (try dsimp only at hSw); go_simp; try (with_reducible rfl))
              try simp only [Act.put, List.setIfInBounds_toArray, List.set_cons_zero, List.set_cons_succ]
              refine wpAnyH_take (i := 15) (oi := { dst := some 148, op := _, type := _, pos := _, after := _, guard := _ }) (v := ?_) rfl (by kernel_rfl) (by kernel_rfl) (by kernel_rfl) (fun _ _ _ h => h) (Or.inl ⟨by rfl, ?_⟩) (by assumption) ?_
              rotate_left
              · (intro W hSw; (try dsimp only at hSw); go_simp; try (with_reducible rfl))
              try simp only [Act.put, List.setIfInBounds_toArray, List.set_cons_zero, List.set_cons_succ]
              refine wpAnyH_take (i := 16) (oi := { dst := some 149, op := _, type := _, pos := _, after := _, guard := _ }) (v := ?_) rfl (by kernel_rfl) (by kernel_rfl) (by kernel_rfl) (fun _ _ _ h => h) (Or.inl ⟨by rfl, ?_⟩) (by assumption) ?_
              rotate_left
              · (intro W hSw; (try dsimp only at hSw); go_simp; try (with_reducible rfl))
              try simp only [Act.put, List.setIfInBounds_toArray, List.set_cons_zero, List.set_cons_succ]
              refine wpAnyH_ready (rs := [4]) (by kernel_rfl) (by simp) ?_
              refine AllReadyH.cons (o := { dst := some 137, op := _, type := _, pos := _, after := _, guard := _ }) rfl (fun K hK => ?_) AllReadyH.nil
              go_simp
              have qk := HKPT.out _ hcur
              rw [HKL.out] at qk
              refine qk.mono ?_
              rintro e1 x1 ⟨na, nc, rfl, hnr, hnb⟩
              have hcur : Below w10.heap.size w10 x1 := hcur.trans (hnb.mono hcur.size)
              have hkeep := HKS.out _ hcur
              have sN := Dst.strW0 hnr nc
              rw [HKL.out, HSTR.out] at sN
              clear hnb hnr
              go_wp2_with fail
              refine hK.out _ _ ?_ (fun hHeld => ?_)
              · exact hkeep
              clear hK K
              try simp only [Act.put, List.setIfInBounds_toArray, List.set_cons_zero, List.set_cons_succ]
              refine wpAnyH_ready (rs := [5]) (by kernel_rfl) (by simp) ?_
              refine AllReadyH.cons (o := { dst := some 138, op := _, type := _, pos := _, after := _, guard := _ }) rfl (fun K hK => ?_) AllReadyH.nil
              go_simp
              refine hK.out _ _ ?_ (fun hHeld => ?_)
              · exact hkeep
              clear hK K
              try simp only [Act.put, List.setIfInBounds_toArray, List.set_cons_zero, List.set_cons_succ]
              refine wpAnyH_take (i := 17) (oi := { dst := some 150, op := _, type := _, pos := _, after := _, guard := _ }) (v := ?_) rfl (by kernel_rfl) (by kernel_rfl) (by kernel_rfl) (fun _ _ _ h => h) (Or.inl ⟨by rfl, ?_⟩) (by assumption) ?_
              rotate_left
              · (intro W hSw; (try dsimp only at hSw); go_simp; try (with_reducible rfl))
              try simp only [Act.put, List.setIfInBounds_toArray, List.set_cons_zero, List.set_cons_succ]
              refine wpAnyH_take (i := 18) (oi := { dst := some 151, op := _, type := _, pos := _, after := _, guard := _ }) (v := ?_) rfl (by kernel_rfl) (by kernel_rfl) (by kernel_rfl) (fun _ _ _ h => h) (Or.inl ⟨by rfl, ?_⟩) (by assumption) ?_
              rotate_left
              · (intro W hSw; (try dsimp only at hSw); go_simp; try (with_reducible rfl))
              try simp only [Act.put, List.setIfInBounds_toArray, List.set_cons_zero, List.set_cons_succ]
              refine wpAnyH_take (i := 19) (oi := { dst := some 152, op := _, type := _, pos := _, after := _, guard := _ }) (v := ?_) rfl (by kernel_rfl) (by kernel_rfl) (by kernel_rfl) (fun _ _ _ h => h) (Or.inl ⟨by rfl, ?_⟩) (by assumption) ?_
              rotate_left
              · (intro W hSw; (try dsimp only at hSw); go_simp; try (with_reducible rfl))
              try simp only [Act.put, List.setIfInBounds_toArray, List.set_cons_zero, List.set_cons_succ]
              refine wpAnyH_take (i := 20) (oi := { dst := some 153, op := _, type := _, pos := _, after := _, guard := _ }) (v := ?_) rfl (by kernel_rfl) (by kernel_rfl) (by kernel_rfl) (fun _ _ _ h => h) (Or.inl ⟨by rfl, ?_⟩) (by assumption) ?_
              rotate_left
              · (intro W hSw; (try dsimp only at hSw); go_simp; try (with_reducible rfl))
              try simp only [Act.put, List.setIfInBounds_toArray, List.set_cons_zero, List.set_cons_succ]
              refine wpAnyH_take (i := 21) (oi := { dst := some 154, op := _, type := _, pos := _, after := _, guard := _ }) (v := ?_) rfl (by kernel_rfl) (by kernel_rfl) (by kernel_rfl) (fun _ _ _ h => h) (Or.inl ⟨by rfl, ?_⟩) (by assumption) ?_
              rotate_left
              · (intro W hSw; (try dsimp only at hSw); go_simp; try (with_reducible rfl))
              try simp only [Act.put, List.setIfInBounds_toArray, List.set_cons_zero, List.set_cons_succ]
              refine wpAnyH_take (i := 22) (oi := { dst := some 155, op := _, type := _, pos := _, after := _, guard := _ }) (v := ?_) rfl (by kernel_rfl) (by kernel_rfl) (by kernel_rfl) (fun _ _ _ h => h) (Or.inl ⟨by rfl, ?_⟩) (by assumption) ?_
              rotate_left
              · (intro W hSw; (try dsimp only at hSw); go_simp; try (with_reducible rfl))
              try simp only [Act.put, List.setIfInBounds_toArray, List.set_cons_zero, List.set_cons_succ]
              refine wpAnyH_take (i := 24) (oi := { dst := some 157, op := _, type := _, pos := _, after := _, guard := _ }) (v := ?_) rfl (by kernel_rfl) (by kernel_rfl) (by kernel_rfl) (fun _ _ _ h => h) (Or.inl ⟨by rfl, ?_⟩) (by assumption) ?_
              rotate_left
              · (intro W hSw; (try dsimp only at hSw); go_simp; try (with_reducible rfl))
              try simp only [Act.put, List.setIfInBounds_toArray, List.set_cons_zero, List.set_cons_succ]
              refine wpAnyH_take (i := 25) (oi := { dst := some 158, op := _, type := _, pos := _, after := _, guard := _ }) (v := ?_) rfl (by kernel_rfl) (by kernel_rfl) (by kernel_rfl) (fun _ _ _ h => h) (Or.inl ⟨by rfl, ?_⟩) (by assumption) ?_
              rotate_left
              · (intro W hSw; (try dsimp only at hSw); go_simp; try (with_reducible rfl))
              try simp only [Act.put, List.setIfInBounds_toArray, List.set_cons_zero, List.set_cons_succ]
              refine wpAnyH_take (i := 26) (oi := { dst := some 159, op := _, type := _, pos := _, after := _, guard := _ }) (v := ?_) rfl (by kernel_rfl) (by kernel_rfl) (by kernel_rfl) (fun _ _ _ h => h) (Or.inl ⟨by rfl, ?_⟩) (by assumption) ?_
              rotate_left
              · (intro W hSw; (try dsimp only at hSw); go_simp; try (with_reducible rfl))
              try simp only [Act.put, List.setIfInBounds_toArray, List.set_cons_zero, List.set_cons_succ]
              refine wpAnyH_take (i := 27) (oi := { dst := some 160, op := _, type := _, pos := _, after := _, guard := _ }) (v := ?_) rfl (by kernel_rfl) (by kernel_rfl) (by kernel_rfl) (fun _ _ _ h => h) (Or.inl ⟨by rfl, ?_⟩) (by assumption) ?_
              rotate_left
              · (intro W hSw; (try dsimp only at hSw); go_simp; try (with_reducible rfl))
              try simp only [Act.put, List.setIfInBounds_toArray, List.set_cons_zero, List.set_cons_succ]
              refine wpAnyH_take (i := 28) (oi := { dst := some 161, op := _, type := _, pos := _, after := _, guard := _ }) (v := ?_) rfl (by kernel_rfl) (by kernel_rfl) (by kernel_rfl) (fun _ _ _ h => h) (Or.inl ⟨by rfl, ?_⟩) (by assumption) ?_
              rotate_left
              · (intro W hSw; (try dsimp only at hSw); go_simp; try (with_reducible rfl))
              try simp only [Act.put, List.setIfInBounds_toArray, List.set_cons_zero, List.set_cons_succ]
              refine wpAnyH_take (i := 29) (oi := { dst := some 162, op := _, type := _, pos := _, after := _, guard := _ }) (v := ?_) rfl (by kernel_rfl) (by kernel_rfl) (by kernel_rfl) (fun _ _ _ h => h) (Or.inl ⟨by rfl, ?_⟩) (by assumption) ?_
              rotate_left
              · (intro W hSw; (try dsimp only at hSw); go_simp; try (with_reducible rfl))
              try simp only [Act.put, List.setIfInBounds_toArray, List.set_cons_zero, List.set_cons_succ]
              refine wpAnyH_take (i := 30) (oi := { dst := some 163, op := _, type := _, pos := _, after := _, guard := _ }) (v := ?_) rfl (by kernel_rfl) (by kernel_rfl) (by kernel_rfl) (fun _ _ _ h => h) (Or.inl ⟨by rfl, ?_⟩) (by assumption) ?_
              rotate_left
              · (intro W hSw; (try dsimp only at hSw); go_simp; try (with_reducible rfl))
              try simp only [Act.put, List.setIfInBounds_toArray, List.set_cons_zero, List.set_cons_succ]
              refine wpAnyH_take (i := 31) (oi := { dst := some 164, op := _, type := _, pos := _, after := _, guard := _ }) (v := ?_) rfl (by kernel_rfl) (by kernel_rfl) (by kernel_rfl) (fun _ _ _ h => h) (Or.inl ⟨by rfl, ?_⟩) (by assumption) ?_
              rotate_left
              · (intro W hSw; (try dsimp only at hSw); go_simp; try (with_reducible rfl))
              try simp only [Act.put, List.setIfInBounds_toArray, List.set_cons_zero, List.set_cons_succ]
              refine wpAnyH_take (i := 32) (oi := { dst := some 165, op := _, type := _, pos := _, after := _, guard := _ }) (v := ?_) rfl (by kernel_rfl) (by kernel_rfl) (by kernel_rfl) (fun _ _ _ h => h) (Or.inl ⟨by rfl, ?_⟩) (by assumption) ?_
              rotate_left
              · (intro W hSw; (try dsimp only at hSw); go_simp; try (with_reducible rfl))
              try simp only [Act.put, List.setIfInBounds_toArray, List.set_cons_zero, List.set_cons_succ]
              refine wpAnyH_take (i := 33) (oi := { dst := some 166, op := _, type := _, pos := _, after := _, guard := _ }) (v := ?_) rfl (by kernel_rfl) (by kernel_rfl) (by kernel_rfl) (fun _ _ _ h => h) (Or.inl ⟨by rfl, ?_⟩) (by assumption) ?_
              rotate_left
              · (intro W hSw; (try dsimp only at hSw); go_simp; try (with_reducible rfl))
              try simp only [Act.put, List.setIfInBounds_toArray, List.set_cons_zero, List.set_cons_succ]
              refine wpAnyH_take (i := 34) (oi := { dst := some 167, op := _, type := _, pos := _, after := _, guard := _ }) (v := ?_) rfl (by kernel_rfl) (by kernel_rfl) (by kernel_rfl) (fun _ _ _ h => h) (Or.inl ⟨by rfl, ?_⟩) (by assumption) ?_
              rotate_left
              · (intro W hSw; (try dsimp only at hSw); go_simp; try (with_reducible rfl))
              try simp only [Act.put, List.setIfInBounds_toArray, List.set_cons_zero, List.set_cons_succ]
              refine wpAnyH_take (i := 35) (oi := { dst := some 168, op := _, type := _, pos := _, after := _, guard := _ }) (v := ?_) rfl (by kernel_rfl) (by kernel_rfl) (by kernel_rfl) (fun _ _ _ h => h) (Or.inl ⟨by rfl, ?_⟩) (by assumption) ?_
              rotate_left
              · (intro W hSw; (try dsimp only at hSw); go_simp; try (with_reducible rfl))
              try simp only [Act.put, List.setIfInBounds_toArray, List.set_cons_zero, List.set_cons_succ]
              refine wpAnyH_take (i := 36) (oi := { dst := some 169, op := _, type := _, pos := _, after := _, guard := _ }) (v := ?_) rfl (by kernel_rfl) (by kernel_rfl) (by kernel_rfl) (fun _ _ _ h => h) (Or.inl ⟨by rfl, ?_⟩) (by assumption) ?_
              rotate_left
              · (intro W hSw; (try dsimp only at hSw); go_simp; try (with_reducible rfl))
              try simp only [Act.put, List.setIfInBounds_toArray, List.set_cons_zero, List.set_cons_succ]
              refine wpAnyH_take (i := 37) (oi := { dst := some 170, op := _, type := _, pos := _, after := _, guard := _ }) (v := ?_) rfl (by kernel_rfl) (by kernel_rfl) (by kernel_rfl) (fun _ _ _ h => h) (Or.inl ⟨by rfl, ?_⟩) (by assumption) ?_
              rotate_left
              · (intro W hSw; (try dsimp only at hSw); go_simp; try (with_reducible rfl))
              try simp only [Act.put, List.setIfInBounds_toArray, List.set_cons_zero, List.set_cons_succ]
              refine wpAnyH_take (i := 38) (oi := { dst := some 171, op := _, type := _, pos := _, after := _, guard := _ }) (v := ?_) rfl (by kernel_rfl) (by kernel_rfl) (by kernel_rfl) (fun _ _ _ h => h) (Or.inl ⟨by rfl, ?_⟩) (by assumption) ?_
              rotate_left
              · (intro W hSw; (try dsimp only at hSw); go_simp; try (with_reducible rfl))
              try simp only [Act.put, List.setIfInBounds_toArray, List.set_cons_zero, List.set_cons_succ]
              refine wpAnyH_take (i := 39) (oi := { dst := some 172, op := _, type := _, pos := _, after := _, guard := _ }) (v := ?_) rfl (by kernel_rfl) (by kernel_rfl) (by kernel_rfl) (fun _ _ _ h => h) (Or.inl ⟨by rfl, ?_⟩) (by assumption) ?_
              rotate_left
              · (intro W hSw; (try dsimp only at hSw); go_simp; try (with_reducible rfl))
              try simp only [Act.put, List.setIfInBounds_toArray, List.set_cons_zero, List.set_cons_succ]
              refine wpAnyH_take (i := 40) (oi := { dst := some 173, op := _, type := _, pos := _, after := _, guard := _ }) (v := ?_) rfl (by kernel_rfl) (by kernel_rfl) (by kernel_rfl) (fun _ _ _ h => h) (Or.inl ⟨by rfl, ?_⟩) (by assumption) ?_
              rotate_left
              · (intro W hSw; (try dsimp only at hSw); go_simp; try (with_reducible rfl))
              try simp only [Act.put, List.setIfInBounds_toArray, List.set_cons_zero, List.set_cons_succ]
              refine wpAnyH_take (i := 41) (oi := { dst := some 174, op := _, type := _, pos := _, after := _, guard := _ }) (v := ?_) rfl (by kernel_rfl) (by kernel_rfl) (by kernel_rfl) (fun _ _ _ h => h) (Or.inl ⟨by rfl, ?_⟩) (by assumption) ?_
              rotate_left
              · (intro W hSw; (try dsimp only at hSw); go_simp; try (with_reducible rfl))
              try simp only [Act.put, List.setIfInBounds_toArray, List.set_cons_zero, List.set_cons_succ]
              refine wpAnyH_take (i := 42) (oi := { dst := some 175, op := _, type := _, pos := _, after := _, guard := _ }) (v := ?_) rfl (by kernel_rfl) (by kernel_rfl) (by kernel_rfl) (fun _ _ _ h => h) (Or.inl ⟨by rfl, ?_⟩) (by assumption) ?_
              rotate_left
              · (intro W hSw; (try dsimp only at hSw); go_simp; try (with_reducible rfl))
              try simp only [Act.put, List.setIfInBounds_toArray, List.set_cons_zero, List.set_cons_succ]
              refine wpAnyH_take (i := 43) (oi := { dst := some 176, op := _, type := _, pos := _, after := _, guard := _ }) (v := ?_) rfl (by kernel_rfl) (by kernel_rfl) (by kernel_rfl) (fun _ _ _ h => h) (Or.inl ⟨by rfl, ?_⟩) (by assumption) ?_
              rotate_left
              · (intro W hSw; (try dsimp only at hSw); go_simp; try (with_reducible rfl))
              try simp only [Act.put, List.setIfInBounds_toArray, List.set_cons_zero, List.set_cons_succ]
              refine wpAnyH_take (i := 44) (oi := { dst := some 177, op := _, type := _, pos := _, after := _, guard := _ }) (v := ?_) rfl (by kernel_rfl) (by kernel_rfl) (by kernel_rfl) (fun _ _ _ h => h) (Or.inl ⟨by rfl, ?_⟩) (by assumption) ?_
              rotate_left
              · (intro W hSw; (try dsimp only at hSw); go_simp; try (with_reducible rfl))
              try simp only [Act.put, List.setIfInBounds_toArray, List.set_cons_zero, List.set_cons_succ]
              refine wpAnyH_take (i := 45) (oi := { dst := some 178, op := _, type := _, pos := _, after := _, guard := _ }) (v := ?_) rfl (by kernel_rfl) (by kernel_rfl) (by kernel_rfl) (fun _ _ _ h => h) (Or.inl ⟨by rfl, ?_⟩) (by assumption) ?_
              rotate_left
              · (intro W hSw; (try dsimp only at hSw); go_simp; try (with_reducible rfl))
              try simp only [Act.put, List.setIfInBounds_toArray, List.set_cons_zero, List.set_cons_succ]
              refine wpAnyH_take (i := 46) (oi := { dst := some 179, op := _, type := _, pos := _, after := _, guard := _ }) (v := .int .i64 (sz : Int)) rfl (by kernel_rfl) (by kernel_rfl) (by kernel_rfl) (fun _ _ _ h => h) (Or.inl ⟨by rfl, ?_⟩) (by assumption) ?_
              · (intro W hSw; (try dsimp only at hSw); go_simp; try (exact ewr))
              try simp only [Act.put, List.setIfInBounds_toArray, List.set_cons_zero, List.set_cons_succ]
              refine wpAnyH_ready (rs := [23]) (by kernel_rfl) (by simp) ?_
              refine AllReadyH.cons (o := { dst := some 156, op := _, type := _, pos := _, after := _, guard := _ }) rfl (fun K hK => ?_) AllReadyH.nil
              go_simp
              refine (HSIZ.out _ hcur).mono ?_
              rintro e1 x2 ⟨rfl, hx2⟩
              have hx2' := hx2.symm
              subst hx2'
              clear hx2
              have hkeep := HKS.out _ hcur
              go_wp2_with fail
              refine hK.out _ _ ?_ (fun hHeld => ?_)
              · exact hkeep
              clear hK K
              try simp only [Act.put, List.setIfInBounds_toArray, List.set_cons_zero, List.set_cons_succ]
              refine wpAnyH_take (i := 47) (oi := { dst := some 180, op := _, type := _, pos := _, after := _, guard := _ }) (v := .bool false) rfl (by kernel_rfl) (by kernel_rfl) (by kernel_rfl) (fun _ _ _ h => h) (Or.inl ⟨by rfl, ?_⟩) (by assumption) ?_
              · (intro W hSw; (try dsimp only at hSw); go_simp; try (exact ewr))
              try simp only [Act.put, List.setIfInBounds_toArray, List.set_cons_zero, List.set_cons_succ]
              refine wpAnyH_take (i := 48) (oi := { dst := some 181, op := _, type := _, pos := _, after := _, guard := _ }) (v := ?_) rfl (by kernel_rfl) (by kernel_rfl) (by kernel_rfl) (fun _ _ _ h => h) (Or.inl ⟨by rfl, ?_⟩) (by assumption) ?_
              rotate_left
              · (intro W hSw; (try dsimp only at hSw); go_simp; try (with_reducible rfl))
              try simp only [Act.put, List.setIfInBounds_toArray, List.set_cons_zero, List.set_cons_succ]
              refine wpAnyH_done (by kernel_rfl) ?_ _
              have HBN := mkH hcur
              clear hcur hkeep hHeld
              go_wp2_with fail
              exact ⟨⟨k + 1, by omega, by go_num, HBN⟩, by simp [intOf]; omega⟩
        · have t5 : (kd == 5) = false := by simp [h5]
          go_wp2_with fail
          refine (does_any HP.out.1 HP.out.2 (by omega) kd n fl xa xc xb HX.out hxl hxc hxf).mono ?_
          rintro e w6 ⟨rfl, hpr⟩
          have hi3 := act_inv HP.out.2 (by omega) kd n fl (b := xb.take 400) (by rw [List.length_take]; omega)
          generalize act h kd n fl (xb.take 400) = h3 at hpr hi3
          obtain ⟨B3, hB3⟩ : ∃ B3, B = B3 := ⟨_, rfl⟩
          subst hB3
          clear HP c0 c1 c2 c3 HX
          have HW7 := mkH hpr
          have HI3 := mkH hi3
          have hp1 := hi3.p1
          clear hpr hi3
          go_wp2_with fail
          refine (all_pp HW7.out HI3.out (by omega)).mono ?_
          rintro e w8 ⟨ra0, rc0, rl0, rfl, hol, hmap, hb8⟩
          have hrr := Ol.rr hol
          rw [hmap] at hrr
          have hp8 := HW7.out.below hb8
          obtain ⟨AL, hAL⟩ : ∃ AL, (all (es h3)).length = AL := ⟨_, rfl⟩
          have hALb : AL ≤ 1000000 := by rw [← hAL]; have := es_len HI3.out; omega
          obtain ⟨dd, hdd⟩ : ∃ dd, h3.dn.isSome = dd := ⟨_, rfl⟩
          obtain ⟨sa, scap, s1, s2, s3⟩ := rsegs_pp hp8
          rw [hdd] at s2
          have HKD : Hid (∀ W, Below w8.heap.size w8 W → W.cell? ⟨R, 2, none⟩ = some (.bool dd)) := fun W hW => by rw [hW.cell (p := ⟨R, 2, none⟩) (World.block_lt_of_cell? w8 _ s2)]; exact s2
          have HREC : Hid (∀ W, Below w8.heap.size w8 W → Calls Tryd.prog 17 #[.pointer (some ⟨R, 0, none⟩)] W fun e w' => ∃ a c, e = .returned (.slice a AL c) ∧ Rr w' a (all (es h3)) ∧ Below W.heap.size W w') := fun W hW => by
            refine (rrecords_pp (hp8.below hW) HI3.out (by omega)).mono ?_
            rintro e w' ⟨a, c, l2, rfl, x1, x2, x3⟩
            have x4 := Ol.rr x1
            rw [x2] at x4
            exact ⟨a, c, by rw [hAL], x4, x3⟩
          have HALK : Hid (∀ W a2 c2, Below w8.heap.size w8 W → Rr W a2 (all (es h3)) → Calls Tryd.prog 16 #[.slice ra0 AL rc0, .slice a2 AL c2] W fun e w' => e = .returned (.bool true) ∧ Below W.heap.size W w') := fun W a2 c2 hW h2 => by
            have := alike_any W ra0 a2 rc0 c2 (all (es h3)) (hrr.below hW) h2 (by omega)
            rw [hAL] at this
            exact this
          have HDWN : Hid (∀ W, Below w8.heap.size w8 W → Calls Tryd.prog 18 #[.pointer (some ⟨B, 0, none⟩)] W fun e w' => e = .returned (.bool dd) ∧ w' = W) := fun W hW => by
            have := down_pp (hp8.below hW) hp1
            rw [hdd] at this
            exact this
          obtain ⟨b0, hb0⟩ : ∃ b0, nb h3 = b0 := ⟨_, rfl⟩
          obtain ⟨n0, hn0⟩ : ∃ n0, nn h3 = n0 := ⟨_, rfl⟩
          obtain ⟨f0, hf0⟩ : ∃ f0, ns h3 = f0 := ⟨_, rfl⟩
          have HBAS : Hid (∀ W, Below w8.heap.size w8 W → Calls Tryd.prog 19 #[.pointer (some ⟨B, 0, none⟩)] W fun e w' => e = .returned (.int .i64 (b0 : Int)) ∧ w' = W) := fun W hW => by
            have := base_pp (hp8.below hW) hp1; rw [hb0] at this; exact this
          have HLEN : Hid (∀ W, Below w8.heap.size w8 W → Calls Tryd.prog 21 #[.pointer (some ⟨B, 0, none⟩)] W fun e w' => e = .returned (.int .i64 (n0 : Int)) ∧ w' = W) := fun W hW => by
            have := len_pp (hp8.below hW) hp1; rw [hn0] at this; exact this
          have HSAF : Hid (∀ W, Below w8.heap.size w8 W → Calls Tryd.prog 23 #[.pointer (some ⟨B, 0, none⟩)] W fun e w' => e = .returned (.int .i64 (f0 : Int)) ∧ w' = W) := fun W hW => by
            have := safe_pp (hp8.below hW) hp1; rw [hf0] at this; exact this
          have HRBA : Hid (∀ W, Below w8.heap.size w8 W → Calls Tryd.prog 20 #[.pointer (some ⟨R, 0, none⟩)] W fun e w' => e = .returned (.int .i64 (b0 : Int)) ∧ Below W.heap.size W w') := fun W hW => by
            have := rbase_pp (hp8.below hW) HI3.out; rw [hb0] at this; exact this
          have HRLE : Hid (∀ W, Below w8.heap.size w8 W → Calls Tryd.prog 22 #[.pointer (some ⟨R, 0, none⟩)] W fun e w' => e = .returned (.int .i64 (n0 : Int)) ∧ Below W.heap.size W w') := fun W hW => by
            have := rlen_pp (hp8.below hW) HI3.out (by omega); rw [hn0] at this; exact this
          have HRSA : Hid (∀ W, Below w8.heap.size w8 W → Calls Tryd.prog 24 #[.pointer (some ⟨R, 0, none⟩)] W fun e w' => e = .returned (.int .i64 (f0 : Int)) ∧ Below W.heap.size W w') := fun W hW => by
            have := rsafe_pp (hp8.below hW) HI3.out (by omega); rw [hf0] at this; exact this
          have HP8 := mkH hp8
          have hcur0 : Below w8.heap.size w8 w8.drew := below_drewN (Below.refl _ _) 1
          rw [hAL]
          clear hol hmap hb8 hrr hp8 s1 s2 s3 HW7 hAL hb0 hn0 hf0 hdd
          go_wp2_with fail
          go_region_held3 (fun W => W.cell? ⟨R, 2, none⟩ = some (.bool dd)) (first | exact hkeep5 | exact hkeep4 | exact hkeep3 | exact hkeep2 | exact hkeep1 | exact HKD.out _ hcur0) (first
            | (go_at_call 17; refine (HREC.out _ hcur0).mono ?_; rintro e x1 ⟨qa, qc, rfl, hq1, hbq⟩; have hcur1 := hcur0.trans (hbq.mono hcur0.size); have hkeep1 := HKD.out _ hcur1)
            | (go_at_call 16; refine (HALK.out _ qa qc hcur1 hq1).mono ?_; rintro e x2 ⟨rfl, hbq2⟩; have hcur2 := hcur1.trans (hbq2.mono hcur1.size); have hkeep2 := HKD.out _ hcur2)
            | (go_at_call 18; refine (HDWN.out _ hcur2).mono ?_; rintro e x3 ⟨rfl, hx3⟩; have hx3' := hx3.symm; subst hx3'; clear hx3)
            | (go_at_call 19; refine (HBAS.out _ hcur2).mono ?_; rintro e x4 ⟨rfl, hx4⟩; have hx4' := hx4.symm; subst hx4'; clear hx4)
            | (go_at_call 20; refine (HRBA.out _ hcur2).mono ?_; rintro e x5 ⟨rfl, hb5⟩; have hcur3 := hcur2.trans (hb5.mono hcur2.size); have hkeep3 := HKD.out _ hcur3)
            | (go_at_call 21; refine (HLEN.out _ hcur3).mono ?_; rintro e x6 ⟨rfl, hx6⟩; have hx6' := hx6.symm; subst hx6'; clear hx6)
            | (go_at_call 22; refine (HRLE.out _ hcur3).mono ?_; rintro e x7 ⟨rfl, hb7⟩; have hcur4 := hcur3.trans (hb7.mono hcur3.size); have hkeep4 := HKD.out _ hcur4)
            | (go_at_call 23; refine (HSAF.out _ hcur4).mono ?_; rintro e x8 ⟨rfl, hx8⟩; have hx8' := hx8.symm; subst hx8'; clear hx8)
            | (go_at_call 24; refine (HRSA.out _ hcur4).mono ?_; rintro e x9 ⟨rfl, hb9⟩; have hcur5 := hcur4.trans (hb9.mono hcur4.size); have hkeep5 := HKD.out _ hcur5))
          have HP9 := mkH (HP8.out.below hcur5)
          clear hcur0 hcur1 hcur2 hcur3 hcur4 hcur5 hkeep1 hkeep2 hkeep3 hkeep4 hkeep5 hq1 hbq hbq2 hb5 hb7 hb9 HREC HALK HDWN HBAS HLEN HSAF HRBA HRLE HRSA HKD HP8
          go_wp2_with fail
          refine (segments_pp HP9.out HI3.out).mono ?_
          rintro e w10 ⟨v10, FD, Ps, rfl, hnd⟩
          obtain ⟨da, dc, rfl⟩ := own_form hnd.own
          have hp10 := HP9.out.below hnd.below
          obtain ⟨sa, scap, s1, s2, s3⟩ := rsegs_pp hp10
          obtain ⟨n, hn⟩ : ∃ n, h3.segs.length = n := ⟨_, rfl⟩
          have hpl : Ps.length = n := by have := hnd.sk.1; rw [List.length_map, hn] at this; exact this
          have hn6 : n ≤ 256 := by rw [← hn]; exact HI3.out.n
          rw [hn] at s1
          rw [hpl]
          have HND := mkH hnd
          have HP10 := mkH hp10
          have HSG := mkH s3
          have HPL := mkH hpl
          have HN := mkH hn
          clear hnd hp10 s2 s3 hpl hn HP9
          go_wp2_with fail
          go_loopw [130] (fun kv W => ∃ k : Nat, k ≤ n ∧ kv = .int .i64 k ∧ Hid (Below w10.heap.size w10 W)) (fun kv _ => n - (intOf kv).toNat)
          case atStart => exact ⟨0, Nat.zero_le _, rfl, Below.refl _ _⟩
          case round =>
            obtain ⟨k, hk, rfl, HB⟩ := hrel
            clear s1
            by_cases hkn : k = n
            · subst hkn
              have HPE := mkH (HP10.out.below HB.out)
              clear HP10 HND
              go_wp2_with fail
              exact ⟨HEND.out _ _ ⟨_, HPE.out, HI3.out⟩, by simp [intOf]; omega⟩
            · have hkl : k < n := by omega
              obtain ⟨s, hs⟩ := nth (l := h3.segs) (j := k) (by rw [HN.out]; exact hkl)
              obtain ⟨D, hD⟩ := nth (l := Ps) (j := k) (by rw [HPL.out]; exact hkl)
              obtain ⟨dg, rfl, u1⟩ := nd_at HND.out hD
              obtain ⟨G, hG, -, -⟩ := HND.out.sk.at (fun q hq => (HND.out.fd q hq).2) hD (by rw [List.getElem?_map, hs]; rfl)
              obtain ⟨g, off, E, ka, kc, ra, rc, rfl, u2, u3, u4, u5, u6, u7⟩ := HSG.out k s hs
              rw [HN.out] at u2
              obtain ⟨kl, hkl2⟩ : ∃ kl, (dst h3.dn s).kept.length = kl := ⟨_, rfl⟩
              obtain ⟨rl, hrl2⟩ : ∃ rl, (dst h3.dn s).rest.length = rl := ⟨_, rfl⟩
              obtain ⟨sk, hsk⟩ : ∃ sk, S (dst h3.dn s).kept = sk := ⟨_, rfl⟩
              have HKS : Hid (∀ W, Below w10.heap.size w10 W → W.cell? ⟨dg, k, none⟩ = some (.pointer (some ⟨D, 0, none⟩)) ∧ W.cell? ⟨R, 1, none⟩ = some (.slice (some ⟨g, off, none⟩) n scap) ∧ W.cell? ⟨g, off + k, none⟩ = some (.pointer (some ⟨E, 0, none⟩)) ∧ W.cell? ⟨E, 0, none⟩ = some (.slice ka kl kc) ∧ W.cell? ⟨E, 1, none⟩ = some (.slice ra rl rc) ∧ (convert 30 9 (.slice ka kl kc)).run Tryd.prog W = .ok (.string sk) W) := fun W hW => by
                have y6 := Dst.strW0 (u6.below hW) kc
                rw [hkl2, hsk] at y6
                refine ⟨?_, ?_, ?_, ?_, ?_, y6⟩
                · rw [hW.cell (p := ⟨dg, k, none⟩) (World.block_lt_of_cell? w10 _ u1)]; exact u1
                · rw [hW.cell (p := ⟨R, 1, none⟩) (World.block_lt_of_cell? w10 _ u2)]; exact u2
                · rw [hW.cell (p := ⟨g, off + k, none⟩) (World.block_lt_of_cell? w10 _ u3)]; exact u3
                · rw [hW.cell (p := ⟨E, 0, none⟩) (World.block_lt_of_cell? w10 _ u4), u4, hkl2]
                · rw [hW.cell (p := ⟨E, 1, none⟩) (World.block_lt_of_cell? w10 _ u5), u5, hrl2]
              obtain ⟨sz, hsz⟩ : ∃ sz, kl + rl = sz := ⟨_, rfl⟩
              have HKPT : Hid (∀ W, Below w10.heap.size w10 W → Calls Tryd.prog 26 #[.pointer (some ⟨D, 0, none⟩)] W fun e w' => ∃ na nc, e = .returned (.slice na (dst h3.dn s).kept.length nc) ∧ Row w' na (dst h3.dn s).kept ∧ Below W.heap.size W w') := fun W hW => by
                refine (Dc.kept_any (hG.below hW)).mono ?_
                rintro e w' ⟨v, rfl, ⟨na, nc, rfl, -, -, hnr, -⟩, hnb⟩
                exact ⟨na, nc, rfl, hnr, hnb⟩
              have HSIZ : Hid (∀ W, Below w10.heap.size w10 W → Calls Tryd.prog 27 #[.pointer (some ⟨D, 0, none⟩)] W fun e w' => e = .returned (.int .i64 (sz : Int)) ∧ w' = W) := fun W hW => by
                have := Da.size_any (hG.below hW)
                rw [hkl2, hrl2, hsz] at this
                exact this
              have HKL := mkH hkl2
              have HSTR := mkH hsk
              have esz : (kl : Int) + (rl : Int) = (sz : Int) := by omega
              have hkrl : sz ≤ 4194304 := by rw [← hsz, ← hkl2, ← hrl2]; exact u7
              have ewr : IntKind.i64.wrap (sz : Int) = (sz : Int) := wrap_fit2 sz hkrl
              have hcur : Below w10.heap.size w10 wr.drew := below_drewN HB.out 1
              clear hs hD u1 hG u2 u3 u4 u5 u6 u7 hkl2 hrl2 hsk hsz hkn
              go_wp2_with fail
              refine wp_region_held_drew (S := fun W => W.cell? ⟨dg, k, none⟩ = some (.pointer (some ⟨D, 0, none⟩)) ∧ W.cell? ⟨R, 1, none⟩ = some (.slice (some ⟨g, off, none⟩) n scap) ∧ W.cell? ⟨g, off + k, none⟩ = some (.pointer (some ⟨E, 0, none⟩)) ∧ W.cell? ⟨E, 0, none⟩ = some (.slice ka kl kc) ∧ W.cell? ⟨E, 1, none⟩ = some (.slice ra rl rc) ∧ (convert 30 9 (.slice ka kl kc)).run Tryd.prog W = .ok (.string sk) W) (by kernel_rfl) ?_ (fun hHeld => ?_)
              · exact HKS.out _ hcur
              refine wpAnyH_take (i := 0) (oi := { dst := some 133, op := _, type := _, pos := _, after := _, guard := _ }) (v := ?_) rfl (by kernel_rfl) (by kernel_rfl) (by kernel_rfl) (fun _ _ _ h => h) (Or.inl ⟨by rfl, ?_⟩) (by assumption) ?_
              rotate_left
              · (intro W hSw; (try dsimp only at hSw); go_simp; try (with_reducible rfl))
              try simp only [Act.put, List.setIfInBounds_toArray, List.set_cons_zero, List.set_cons_succ]
              refine wpAnyH_take (i := 1) (oi := { dst := some 134, op := _, type := _, pos := _, after := _, guard := _ }) (v := ?_) rfl (by kernel_rfl) (by kernel_rfl) (by kernel_rfl) (fun _ _ _ h => h) (Or.inl ⟨by rfl, ?_⟩) (by assumption) ?_
              rotate_left
              · (intro W hSw; (try dsimp only at hSw); go_simp; try (with_reducible rfl))
              try simp only [Act.put, List.setIfInBounds_toArray, List.set_cons_zero, List.set_cons_succ]
              refine wpAnyH_take (i := 2) (oi := { dst := some 135, op := _, type := _, pos := _, after := _, guard := _ }) (v := ?_) rfl (by kernel_rfl) (by kernel_rfl) (by kernel_rfl) (fun _ _ _ h => h) (Or.inl ⟨by rfl, ?_⟩) (by assumption) ?_
              rotate_left
              · (intro W hSw; (try dsimp only at hSw); go_simp; try (with_reducible rfl))
              try simp only [Act.put, List.setIfInBounds_toArray, List.set_cons_zero, List.set_cons_succ]
              refine wpAnyH_take (i := 3) (oi := { dst := some 136, op := _, type := _, pos := _, after := _, guard := _ }) (v := ?_) rfl (by kernel_rfl) (by kernel_rfl) (by kernel_rfl) (fun _ _ _ h => h) (Or.inl ⟨by rfl, ?_⟩) (by assumption) ?_
              rotate_left
              · (intro W hSw; (try dsimp only at hSw); go_simp; try (with_reducible rfl))
              try simp only [Act.put, List.setIfInBounds_toArray, List.set_cons_zero, List.set_cons_succ]
              refine wpAnyH_take (i := 6) (oi := { dst := some 139, op := _, type := _, pos := _, after := _, guard := _ }) (v := ?_) rfl (by kernel_rfl) (by kernel_rfl) (by kernel_rfl) (fun _ _ _ h => h) (Or.inl ⟨by rfl, ?_⟩) (by assumption) ?_
              rotate_left
              · (intro W hSw; (try dsimp only at hSw); go_simp; try (with_reducible rfl))
              try simp only [Act.put, List.setIfInBounds_toArray, List.set_cons_zero, List.set_cons_succ]
              refine wpAnyH_take (i := 7) (oi := { dst := some 140, op := _, type := _, pos := _, after := _, guard := _ }) (v := ?_) rfl (by kernel_rfl) (by kernel_rfl) (by kernel_rfl) (fun _ _ _ h => h) (Or.inl ⟨by rfl, ?_⟩) (by assumption) ?_
              rotate_left
              · (intro W hSw; (try dsimp only at hSw); go_simp; try (with_reducible rfl))
              try simp only [Act.put, List.setIfInBounds_toArray, List.set_cons_zero, List.set_cons_succ]
              refine wpAnyH_take (i := 8) (oi := { dst := some 141, op := _, type := _, pos := _, after := _, guard := _ }) (v := ?_) rfl (by kernel_rfl) (by kernel_rfl) (by kernel_rfl) (fun _ _ _ h => h) (Or.inl ⟨by rfl, ?_⟩) (by assumption) ?_
              rotate_left
              · (intro W hSw; (try dsimp only at hSw); go_simp; try (with_reducible rfl))
              try simp only [Act.put, List.setIfInBounds_toArray, List.set_cons_zero, List.set_cons_succ]
              refine wpAnyH_take (i := 9) (oi := { dst := some 142, op := _, type := _, pos := _, after := _, guard := _ }) (v := ?_) rfl (by kernel_rfl) (by kernel_rfl) (by kernel_rfl) (fun _ _ _ h => h) (Or.inl ⟨by rfl, ?_⟩) (by assumption) ?_
              rotate_left
              · (intro W hSw; (try dsimp only at hSw); go_simp; try (with_reducible rfl))
              try simp only [Act.put, List.setIfInBounds_toArray, List.set_cons_zero, List.set_cons_succ]
              refine wpAnyH_take (i := 10) (oi := { dst := some 143, op := _, type := _, pos := _, after := _, guard := _ }) (v := ?_) rfl (by kernel_rfl) (by kernel_rfl) (by kernel_rfl) (fun _ _ _ h => h) (Or.inl ⟨by rfl, ?_⟩) (by assumption) ?_
              rotate_left
              · (intro W hSw; (try dsimp only at hSw); go_simp; try (with_reducible rfl))
              try simp only [Act.put, List.setIfInBounds_toArray, List.set_cons_zero, List.set_cons_succ]
              refine wpAnyH_take (i := 11) (oi := { dst := some 144, op := _, type := _, pos := _, after := _, guard := _ }) (v := ?_) rfl (by kernel_rfl) (by kernel_rfl) (by kernel_rfl) (fun _ _ _ h => h) (Or.inl ⟨by rfl, ?_⟩) (by assumption) ?_
              rotate_left
              · (intro W hSw; (try dsimp only at hSw); go_simp; try (with_reducible rfl))
              try simp only [Act.put, List.setIfInBounds_toArray, List.set_cons_zero, List.set_cons_succ]
              refine wpAnyH_take (i := 12) (oi := { dst := some 145, op := _, type := _, pos := _, after := _, guard := _ }) (v := ?_) rfl (by kernel_rfl) (by kernel_rfl) (by kernel_rfl) (fun _ _ _ h => h) (Or.inl ⟨by rfl, ?_⟩) (by assumption) ?_
              rotate_left
              · (intro W hSw; (try dsimp only at hSw); go_simp; try (with_reducible rfl))
              try simp only [Act.put, List.setIfInBounds_toArray, List.set_cons_zero, List.set_cons_succ]
              refine wpAnyH_take (i := 13) (oi := { dst := some 146, op := _, type := _, pos := _, after := _, guard := _ }) (v := ?_) rfl (by kernel_rfl) (by kernel_rfl) (by kernel_rfl) (fun _ _ _ h => h) (Or.inl ⟨by rfl, ?_⟩) (by assumption) ?_
              rotate_left
              · (intro W hSw; (try dsimp only at hSw); go_simp; try (with_reducible rfl))
              try simp only [Act.put, List.setIfInBounds_toArray, List.set_cons_zero, List.set_cons_succ]
              refine wpAnyH_take (i := 14) (oi := { dst := some 147, op := _, type := _, pos := _, after := _, guard := _ }) (v := ?_) rfl (by kernel_rfl) (by kernel_rfl) (by kernel_rfl) (fun _ _ _ h => h) (Or.inl ⟨by rfl, ?_⟩) (by assumption) ?_
              rotate_left
              · (intro W hSw; (try dsimp only at hSw); go_simp; try (with_reducible rfl))
              try simp only [Act.put, List.setIfInBounds_toArray, List.set_cons_zero, List.set_cons_succ]
              refine wpAnyH_take (i := 15) (oi := { dst := some 148, op := _, type := _, pos := _, after := _, guard := _ }) (v := ?_) rfl (by kernel_rfl) (by kernel_rfl) (by kernel_rfl) (fun _ _ _ h => h) (Or.inl ⟨by rfl, ?_⟩) (by assumption) ?_
              rotate_left
              · (intro W hSw; (try dsimp only at hSw); go_simp; try (with_reducible rfl))
              try simp only [Act.put, List.setIfInBounds_toArray, List.set_cons_zero, List.set_cons_succ]
              refine wpAnyH_take (i := 16) (oi := { dst := some 149, op := _, type := _, pos := _, after := _, guard := _ }) (v := ?_) rfl (by kernel_rfl) (by kernel_rfl) (by kernel_rfl) (fun _ _ _ h => h) (Or.inl ⟨by rfl, ?_⟩) (by assumption) ?_
              rotate_left
              · (intro W hSw; (try dsimp only at hSw); go_simp; try (with_reducible rfl))
              try simp only [Act.put, List.setIfInBounds_toArray, List.set_cons_zero, List.set_cons_succ]
              refine wpAnyH_ready (rs := [4]) (by kernel_rfl) (by simp) ?_
              refine AllReadyH.cons (o := { dst := some 137, op := _, type := _, pos := _, after := _, guard := _ }) rfl (fun K hK => ?_) AllReadyH.nil
              go_simp
              have qk := HKPT.out _ hcur
              rw [HKL.out] at qk
              refine qk.mono ?_
              rintro e1 x1 ⟨na, nc, rfl, hnr, hnb⟩
              have hcur : Below w10.heap.size w10 x1 := hcur.trans (hnb.mono hcur.size)
              have hkeep := HKS.out _ hcur
              have sN := Dst.strW0 hnr nc
              rw [HKL.out, HSTR.out] at sN
              clear hnb hnr
              go_wp2_with fail
              refine hK.out _ _ ?_ (fun hHeld => ?_)
              · exact hkeep
              clear hK K
              try simp only [Act.put, List.setIfInBounds_toArray, List.set_cons_zero, List.set_cons_succ]
              refine wpAnyH_ready (rs := [5]) (by kernel_rfl) (by simp) ?_
              refine AllReadyH.cons (o := { dst := some 138, op := _, type := _, pos := _, after := _, guard := _ }) rfl (fun K hK => ?_) AllReadyH.nil
              go_simp
              refine hK.out _ _ ?_ (fun hHeld => ?_)
              · exact hkeep
              clear hK K
              try simp only [Act.put, List.setIfInBounds_toArray, List.set_cons_zero, List.set_cons_succ]
              refine wpAnyH_take (i := 17) (oi := { dst := some 150, op := _, type := _, pos := _, after := _, guard := _ }) (v := ?_) rfl (by kernel_rfl) (by kernel_rfl) (by kernel_rfl) (fun _ _ _ h => h) (Or.inl ⟨by rfl, ?_⟩) (by assumption) ?_
              rotate_left
              · (intro W hSw; (try dsimp only at hSw); go_simp; try (with_reducible rfl))
              try simp only [Act.put, List.setIfInBounds_toArray, List.set_cons_zero, List.set_cons_succ]
              refine wpAnyH_take (i := 18) (oi := { dst := some 151, op := _, type := _, pos := _, after := _, guard := _ }) (v := ?_) rfl (by kernel_rfl) (by kernel_rfl) (by kernel_rfl) (fun _ _ _ h => h) (Or.inl ⟨by rfl, ?_⟩) (by assumption) ?_
              rotate_left
              · (intro W hSw; (try dsimp only at hSw); go_simp; try (with_reducible rfl))
              try simp only [Act.put, List.setIfInBounds_toArray, List.set_cons_zero, List.set_cons_succ]
              refine wpAnyH_take (i := 19) (oi := { dst := some 152, op := _, type := _, pos := _, after := _, guard := _ }) (v := ?_) rfl (by kernel_rfl) (by kernel_rfl) (by kernel_rfl) (fun _ _ _ h => h) (Or.inl ⟨by rfl, ?_⟩) (by assumption) ?_
              rotate_left
              · (intro W hSw; (try dsimp only at hSw); go_simp; try (with_reducible rfl))
              try simp only [Act.put, List.setIfInBounds_toArray, List.set_cons_zero, List.set_cons_succ]
              refine wpAnyH_take (i := 20) (oi := { dst := some 153, op := _, type := _, pos := _, after := _, guard := _ }) (v := ?_) rfl (by kernel_rfl) (by kernel_rfl) (by kernel_rfl) (fun _ _ _ h => h) (Or.inl ⟨by rfl, ?_⟩) (by assumption) ?_
              rotate_left
              · (intro W hSw; (try dsimp only at hSw); go_simp; try (with_reducible rfl))
              try simp only [Act.put, List.setIfInBounds_toArray, List.set_cons_zero, List.set_cons_succ]
              refine wpAnyH_take (i := 21) (oi := { dst := some 154, op := _, type := _, pos := _, after := _, guard := _ }) (v := ?_) rfl (by kernel_rfl) (by kernel_rfl) (by kernel_rfl) (fun _ _ _ h => h) (Or.inl ⟨by rfl, ?_⟩) (by assumption) ?_
              rotate_left
              · (intro W hSw; (try dsimp only at hSw); go_simp; try (with_reducible rfl))
              try simp only [Act.put, List.setIfInBounds_toArray, List.set_cons_zero, List.set_cons_succ]
              refine wpAnyH_take (i := 22) (oi := { dst := some 155, op := _, type := _, pos := _, after := _, guard := _ }) (v := ?_) rfl (by kernel_rfl) (by kernel_rfl) (by kernel_rfl) (fun _ _ _ h => h) (Or.inl ⟨by rfl, ?_⟩) (by assumption) ?_
              rotate_left
              · (intro W hSw; (try dsimp only at hSw); go_simp; try (with_reducible rfl))
              try simp only [Act.put, List.setIfInBounds_toArray, List.set_cons_zero, List.set_cons_succ]
              refine wpAnyH_take (i := 24) (oi := { dst := some 157, op := _, type := _, pos := _, after := _, guard := _ }) (v := ?_) rfl (by kernel_rfl) (by kernel_rfl) (by kernel_rfl) (fun _ _ _ h => h) (Or.inl ⟨by rfl, ?_⟩) (by assumption) ?_
              rotate_left
              · (intro W hSw; (try dsimp only at hSw); go_simp; try (with_reducible rfl))
              try simp only [Act.put, List.setIfInBounds_toArray, List.set_cons_zero, List.set_cons_succ]
              refine wpAnyH_take (i := 25) (oi := { dst := some 158, op := _, type := _, pos := _, after := _, guard := _ }) (v := ?_) rfl (by kernel_rfl) (by kernel_rfl) (by kernel_rfl) (fun _ _ _ h => h) (Or.inl ⟨by rfl, ?_⟩) (by assumption) ?_
              rotate_left
              · (intro W hSw; (try dsimp only at hSw); go_simp; try (with_reducible rfl))
              try simp only [Act.put, List.setIfInBounds_toArray, List.set_cons_zero, List.set_cons_succ]
              refine wpAnyH_take (i := 26) (oi := { dst := some 159, op := _, type := _, pos := _, after := _, guard := _ }) (v := ?_) rfl (by kernel_rfl) (by kernel_rfl) (by kernel_rfl) (fun _ _ _ h => h) (Or.inl ⟨by rfl, ?_⟩) (by assumption) ?_
              rotate_left
              · (intro W hSw; (try dsimp only at hSw); go_simp; try (with_reducible rfl))
              try simp only [Act.put, List.setIfInBounds_toArray, List.set_cons_zero, List.set_cons_succ]
              refine wpAnyH_take (i := 27) (oi := { dst := some 160, op := _, type := _, pos := _, after := _, guard := _ }) (v := ?_) rfl (by kernel_rfl) (by kernel_rfl) (by kernel_rfl) (fun _ _ _ h => h) (Or.inl ⟨by rfl, ?_⟩) (by assumption) ?_
              rotate_left
              · (intro W hSw; (try dsimp only at hSw); go_simp; try (with_reducible rfl))
              try simp only [Act.put, List.setIfInBounds_toArray, List.set_cons_zero, List.set_cons_succ]
              refine wpAnyH_take (i := 28) (oi := { dst := some 161, op := _, type := _, pos := _, after := _, guard := _ }) (v := ?_) rfl (by kernel_rfl) (by kernel_rfl) (by kernel_rfl) (fun _ _ _ h => h) (Or.inl ⟨by rfl, ?_⟩) (by assumption) ?_
              rotate_left
              · (intro W hSw; (try dsimp only at hSw); go_simp; try (with_reducible rfl))
              try simp only [Act.put, List.setIfInBounds_toArray, List.set_cons_zero, List.set_cons_succ]
              refine wpAnyH_take (i := 29) (oi := { dst := some 162, op := _, type := _, pos := _, after := _, guard := _ }) (v := ?_) rfl (by kernel_rfl) (by kernel_rfl) (by kernel_rfl) (fun _ _ _ h => h) (Or.inl ⟨by rfl, ?_⟩) (by assumption) ?_
              rotate_left
              · (intro W hSw; (try dsimp only at hSw); go_simp; try (with_reducible rfl))
              try simp only [Act.put, List.setIfInBounds_toArray, List.set_cons_zero, List.set_cons_succ]
              refine wpAnyH_take (i := 30) (oi := { dst := some 163, op := _, type := _, pos := _, after := _, guard := _ }) (v := ?_) rfl (by kernel_rfl) (by kernel_rfl) (by kernel_rfl) (fun _ _ _ h => h) (Or.inl ⟨by rfl, ?_⟩) (by assumption) ?_
              rotate_left
              · (intro W hSw; (try dsimp only at hSw); go_simp; try (with_reducible rfl))
              try simp only [Act.put, List.setIfInBounds_toArray, List.set_cons_zero, List.set_cons_succ]
              refine wpAnyH_take (i := 31) (oi := { dst := some 164, op := _, type := _, pos := _, after := _, guard := _ }) (v := ?_) rfl (by kernel_rfl) (by kernel_rfl) (by kernel_rfl) (fun _ _ _ h => h) (Or.inl ⟨by rfl, ?_⟩) (by assumption) ?_
              rotate_left
              · (intro W hSw; (try dsimp only at hSw); go_simp; try (with_reducible rfl))
              try simp only [Act.put, List.setIfInBounds_toArray, List.set_cons_zero, List.set_cons_succ]
              refine wpAnyH_take (i := 32) (oi := { dst := some 165, op := _, type := _, pos := _, after := _, guard := _ }) (v := ?_) rfl (by kernel_rfl) (by kernel_rfl) (by kernel_rfl) (fun _ _ _ h => h) (Or.inl ⟨by rfl, ?_⟩) (by assumption) ?_
              rotate_left
              · (intro W hSw; (try dsimp only at hSw); go_simp; try (with_reducible rfl))
              try simp only [Act.put, List.setIfInBounds_toArray, List.set_cons_zero, List.set_cons_succ]
              refine wpAnyH_take (i := 33) (oi := { dst := some 166, op := _, type := _, pos := _, after := _, guard := _ }) (v := ?_) rfl (by kernel_rfl) (by kernel_rfl) (by kernel_rfl) (fun _ _ _ h => h) (Or.inl ⟨by rfl, ?_⟩) (by assumption) ?_
              rotate_left
              · (intro W hSw; (try dsimp only at hSw); go_simp; try (with_reducible rfl))
              try simp only [Act.put, List.setIfInBounds_toArray, List.set_cons_zero, List.set_cons_succ]
              refine wpAnyH_take (i := 34) (oi := { dst := some 167, op := _, type := _, pos := _, after := _, guard := _ }) (v := ?_) rfl (by kernel_rfl) (by kernel_rfl) (by kernel_rfl) (fun _ _ _ h => h) (Or.inl ⟨by rfl, ?_⟩) (by assumption) ?_
              rotate_left
              · (intro W hSw; (try dsimp only at hSw); go_simp; try (with_reducible rfl))
              try simp only [Act.put, List.setIfInBounds_toArray, List.set_cons_zero, List.set_cons_succ]
              refine wpAnyH_take (i := 35) (oi := { dst := some 168, op := _, type := _, pos := _, after := _, guard := _ }) (v := ?_) rfl (by kernel_rfl) (by kernel_rfl) (by kernel_rfl) (fun _ _ _ h => h) (Or.inl ⟨by rfl, ?_⟩) (by assumption) ?_
              rotate_left
              · (intro W hSw; (try dsimp only at hSw); go_simp; try (with_reducible rfl))
              try simp only [Act.put, List.setIfInBounds_toArray, List.set_cons_zero, List.set_cons_succ]
              refine wpAnyH_take (i := 36) (oi := { dst := some 169, op := _, type := _, pos := _, after := _, guard := _ }) (v := ?_) rfl (by kernel_rfl) (by kernel_rfl) (by kernel_rfl) (fun _ _ _ h => h) (Or.inl ⟨by rfl, ?_⟩) (by assumption) ?_
              rotate_left
              · (intro W hSw; (try dsimp only at hSw); go_simp; try (with_reducible rfl))
              try simp only [Act.put, List.setIfInBounds_toArray, List.set_cons_zero, List.set_cons_succ]
              refine wpAnyH_take (i := 37) (oi := { dst := some 170, op := _, type := _, pos := _, after := _, guard := _ }) (v := ?_) rfl (by kernel_rfl) (by kernel_rfl) (by kernel_rfl) (fun _ _ _ h => h) (Or.inl ⟨by rfl, ?_⟩) (by assumption) ?_
              rotate_left
              · (intro W hSw; (try dsimp only at hSw); go_simp; try (with_reducible rfl))
              try simp only [Act.put, List.setIfInBounds_toArray, List.set_cons_zero, List.set_cons_succ]
              refine wpAnyH_take (i := 38) (oi := { dst := some 171, op := _, type := _, pos := _, after := _, guard := _ }) (v := ?_) rfl (by kernel_rfl) (by kernel_rfl) (by kernel_rfl) (fun _ _ _ h => h) (Or.inl ⟨by rfl, ?_⟩) (by assumption) ?_
              rotate_left
              · (intro W hSw; (try dsimp only at hSw); go_simp; try (with_reducible rfl))
              try simp only [Act.put, List.setIfInBounds_toArray, List.set_cons_zero, List.set_cons_succ]
              refine wpAnyH_take (i := 39) (oi := { dst := some 172, op := _, type := _, pos := _, after := _, guard := _ }) (v := ?_) rfl (by kernel_rfl) (by kernel_rfl) (by kernel_rfl) (fun _ _ _ h => h) (Or.inl ⟨by rfl, ?_⟩) (by assumption) ?_
              rotate_left
              · (intro W hSw; (try dsimp only at hSw); go_simp; try (with_reducible rfl))
              try simp only [Act.put, List.setIfInBounds_toArray, List.set_cons_zero, List.set_cons_succ]
              refine wpAnyH_take (i := 40) (oi := { dst := some 173, op := _, type := _, pos := _, after := _, guard := _ }) (v := ?_) rfl (by kernel_rfl) (by kernel_rfl) (by kernel_rfl) (fun _ _ _ h => h) (Or.inl ⟨by rfl, ?_⟩) (by assumption) ?_
              rotate_left
              · (intro W hSw; (try dsimp only at hSw); go_simp; try (with_reducible rfl))
              try simp only [Act.put, List.setIfInBounds_toArray, List.set_cons_zero, List.set_cons_succ]
              refine wpAnyH_take (i := 41) (oi := { dst := some 174, op := _, type := _, pos := _, after := _, guard := _ }) (v := ?_) rfl (by kernel_rfl) (by kernel_rfl) (by kernel_rfl) (fun _ _ _ h => h) (Or.inl ⟨by rfl, ?_⟩) (by assumption) ?_
              rotate_left
              · (intro W hSw; (try dsimp only at hSw); go_simp; try (with_reducible rfl))
              try simp only [Act.put, List.setIfInBounds_toArray, List.set_cons_zero, List.set_cons_succ]
              refine wpAnyH_take (i := 42) (oi := { dst := some 175, op := _, type := _, pos := _, after := _, guard := _ }) (v := ?_) rfl (by kernel_rfl) (by kernel_rfl) (by kernel_rfl) (fun _ _ _ h => h) (Or.inl ⟨by rfl, ?_⟩) (by assumption) ?_
              rotate_left
              · (intro W hSw; (try dsimp only at hSw); go_simp; try (with_reducible rfl))
              try simp only [Act.put, List.setIfInBounds_toArray, List.set_cons_zero, List.set_cons_succ]
              refine wpAnyH_take (i := 43) (oi := { dst := some 176, op := _, type := _, pos := _, after := _, guard := _ }) (v := ?_) rfl (by kernel_rfl) (by kernel_rfl) (by kernel_rfl) (fun _ _ _ h => h) (Or.inl ⟨by rfl, ?_⟩) (by assumption) ?_
              rotate_left
              · (intro W hSw; (try dsimp only at hSw); go_simp; try (with_reducible rfl))
              try simp only [Act.put, List.setIfInBounds_toArray, List.set_cons_zero, List.set_cons_succ]
              refine wpAnyH_take (i := 44) (oi := { dst := some 177, op := _, type := _, pos := _, after := _, guard := _ }) (v := ?_) rfl (by kernel_rfl) (by kernel_rfl) (by kernel_rfl) (fun _ _ _ h => h) (Or.inl ⟨by rfl, ?_⟩) (by assumption) ?_
              rotate_left
              · (intro W hSw; (try dsimp only at hSw); go_simp; try (with_reducible rfl))
              try simp only [Act.put, List.setIfInBounds_toArray, List.set_cons_zero, List.set_cons_succ]
              refine wpAnyH_take (i := 45) (oi := { dst := some 178, op := _, type := _, pos := _, after := _, guard := _ }) (v := ?_) rfl (by kernel_rfl) (by kernel_rfl) (by kernel_rfl) (fun _ _ _ h => h) (Or.inl ⟨by rfl, ?_⟩) (by assumption) ?_
              rotate_left
              · (intro W hSw; (try dsimp only at hSw); go_simp; try (with_reducible rfl))
              try simp only [Act.put, List.setIfInBounds_toArray, List.set_cons_zero, List.set_cons_succ]
              refine wpAnyH_take (i := 46) (oi := { dst := some 179, op := _, type := _, pos := _, after := _, guard := _ }) (v := .int .i64 (sz : Int)) rfl (by kernel_rfl) (by kernel_rfl) (by kernel_rfl) (fun _ _ _ h => h) (Or.inl ⟨by rfl, ?_⟩) (by assumption) ?_
              · (intro W hSw; (try dsimp only at hSw); go_simp; try (exact ewr))
              try simp only [Act.put, List.setIfInBounds_toArray, List.set_cons_zero, List.set_cons_succ]
              refine wpAnyH_ready (rs := [23]) (by kernel_rfl) (by simp) ?_
              refine AllReadyH.cons (o := { dst := some 156, op := _, type := _, pos := _, after := _, guard := _ }) rfl (fun K hK => ?_) AllReadyH.nil
              go_simp
              refine (HSIZ.out _ hcur).mono ?_
              rintro e1 x2 ⟨rfl, hx2⟩
              have hx2' := hx2.symm
              subst hx2'
              clear hx2
              have hkeep := HKS.out _ hcur
              go_wp2_with fail
              refine hK.out _ _ ?_ (fun hHeld => ?_)
              · exact hkeep
              clear hK K
              try simp only [Act.put, List.setIfInBounds_toArray, List.set_cons_zero, List.set_cons_succ]
              refine wpAnyH_take (i := 47) (oi := { dst := some 180, op := _, type := _, pos := _, after := _, guard := _ }) (v := .bool false) rfl (by kernel_rfl) (by kernel_rfl) (by kernel_rfl) (fun _ _ _ h => h) (Or.inl ⟨by rfl, ?_⟩) (by assumption) ?_
              · (intro W hSw; (try dsimp only at hSw); go_simp; try (exact ewr))
              try simp only [Act.put, List.setIfInBounds_toArray, List.set_cons_zero, List.set_cons_succ]
              refine wpAnyH_take (i := 48) (oi := { dst := some 181, op := _, type := _, pos := _, after := _, guard := _ }) (v := ?_) rfl (by kernel_rfl) (by kernel_rfl) (by kernel_rfl) (fun _ _ _ h => h) (Or.inl ⟨by rfl, ?_⟩) (by assumption) ?_
              rotate_left
              · (intro W hSw; (try dsimp only at hSw); go_simp; try (with_reducible rfl))
              try simp only [Act.put, List.setIfInBounds_toArray, List.set_cons_zero, List.set_cons_succ]
              refine wpAnyH_done (by kernel_rfl) ?_ _
              have HBN := mkH hcur
              clear hcur hkeep hHeld
              go_wp2_with fail
              exact ⟨⟨k + 1, by omega, by go_num, HBN⟩, by simp [intOf]; omega⟩
end Go.Proofs.YtjfbhchpgmimfaaDoor.Sgp
