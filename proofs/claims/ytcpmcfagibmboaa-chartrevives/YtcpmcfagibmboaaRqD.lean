/-
  ChMo ChI Ref ChV, joined by mrg.py.
-/
import Derived.Test.YtcpmcfagibmboaaRqC
import Derived.Deep.QuietTactic
import Derived.Deep.CutRange
import Derived.Deep.CutBlock
import Derived.Deep.DeepCutAuto
import Derived.BigQuiet
import Derived.Test.YtcpmcfagibmboaaChH
import Derived.Deep.RegionHeld3
import Derived.Test.YtcpmcfagibmboaaChU

namespace Go.Proofs.Ytcpmcfagibmboaa.Mo
open Go.RowKit Gf Gk Mp
open Go.Proofs.Ytcpmcfagibmboaa.Nm
open Nr hiding some_of
open Mn
open Kt
set_option linter.unusedVariables false
set_option linter.unusedSimpArgs false
set_option maxRecDepth 20000

/-- What 'note' leaves: block R has these noted; of the old blocks only R has turned. -/
def NtP (w : World) (R : Nat) (u0 u1 u2 : Value) (l' : List Dd) (w' : World) : Prop := ∃ ka kc, Bx w' R #[u0, u1, u2, .slice ka l'.length kc] 51 ∧ RowD w' ka l' ∧ Fr (fun q => q = R) w w'
theorem noteN_no {l : List Dd} {c n : Int} (h : c < 1 ∨ n < 1 ∨ (lastN l c = 0 ∧ 64 ≤ l.length)) : noteN l c n = l := if_pos h
theorem noteN_put {l : List Dd} {c n : Int} (h : ¬ (c < 1 ∨ n < 1 ∨ (lastN l c = 0 ∧ 64 ≤ l.length))) : noteN l c n = put kD l (c, n) := if_neg h

theorem note_end {w W1 wr : World} {R : Nat} {u0 u1 u2 : Value} {ka ka2 : Option Addr} {n0 kc kc2 : Nat} {out V : List Dd} (he : out = V) (hb : Bx wr R #[u0, u1, u2, .slice ka n0 kc] 51)
    (ho : wr.ownsRow (w.heap.size + 1) 107 2 (.slice ka2 out.length kc2) out.length (Fdd out)) (h1 : Below w.heap.size w W1) (hz : W1.heap.size = w.heap.size + 1) (h2 : Below (w.heap.size + 1) W1 wr) (hR : R < w.heap.size) :
    NtP w R u0 u1 u2 V (wr.setCell ⟨R, 3, none⟩ (.slice ka2 out.length kc2)) := by
  subst he
  have hs := hb.set 3 (.slice ka2 out.length kc2)
  have hf := hb.frset 3 (.slice ka2 out.length kc2)
  have hbl : Below w.heap.size w wr := h1.trans (h2.mono (by omega))
  refine ⟨ka2, kc2, hs, RowS.own dC_len (own_fr ho hf (fun k hk hq => ?_)), (Gf.Fr.ofBelow hbl).trans hf (fun q hq => .inl hq)⟩
  have := (ho.lt k hk).1
  omega
set_option maxHeartbeats 4000000 in
theorem note_any (w : World) (R : Nat) (u0 u1 u2 : Value) (ka : Option Addr) (kc : Nat) (l : List Dd) (hb : Bx w R #[u0, u1, u2, .slice ka l.length kc] 51) (hr : RowD w ka l) (hs : Srt kD l) (hl : l.length ≤ 1000) (c n : Int) (v0 v3 v4 v5 v6 v7 v8 v9 v10 v11 v12 v13 v14 v15 v16 v17 v18 : Value) :
    Calls Try.prog 42 #[.pointer (some ⟨R, 0, none⟩), .agg #[v0, .int .i64 c, .int .i64 n, v3, v4, v5, v6, v7, v8, v9, v10, v11, v12, v13, v14, v15, v16, v17, v18]] w fun x w' => x = .returned (.tuple #[]) ∧ NtP w R u0 u1 u2 (noteN l c n) w' := by
  obtain ⟨V, hV⟩ : ∃ V, V = noteN l c n := ⟨_, rfl⟩
  rw [← hV]
  have hx : Bx (w.alloc (.cells #[v0, .int .i64 c, .int .i64 n, v3, v4, v5, v6, v7, v8, v9, v10, v11, v12, v13, v14, v15, v16, v17, v18] 95)) w.heap.size #[v0, .int .i64 c, .int .i64 n, v3, v4, v5, v6, v7, v8, v9, v10, v11, v12, v13, v14, v15, v16, v17, v18] 95 := Bx.new _ _ _
  have hal : Below w.heap.size w (w.alloc (.cells #[v0, .int .i64 c, .int .i64 n, v3, v4, v5, v6, v7, v8, v9, v10, v11, v12, v13, v14, v15, v16, v17, v18] 95)) := (Below.refl _ w).alloc (Nat.le_refl _) _
  have HAL := mkH hal
  have hz : (w.alloc (.cells #[v0, .int .i64 c, .int .i64 n, v3, v4, v5, v6, v7, v8, v9, v10, v11, v12, v13, v14, v15, v16, v17, v18] 95)).heap.size = w.heap.size + 1 := by simp
  obtain ⟨W1, hW1⟩ : ∃ W1, W1 = w.alloc (.cells #[v0, .int .i64 c, .int .i64 n, v3, v4, v5, v6, v7, v8, v9, v10, v11, v12, v13, v14, v15, v16, v17, v18] 95) := ⟨_, rfl⟩
  rw [← hW1] at hx HAL hz
  have hRlt := hb.lt
  have HBX := mkH (hb.bel HAL.out)
  have HRW : Hid (RowD W1 ka l) := mkH (hr.below HAL.out)
  have HX := mkH hx
  have HW1 := mkH hW1
  have HLA := mkH (last_any W1 R u0 u1 u2 ka kc l HBX.out HRW.out (by omega) c)
  have HZ := mkH hz
  have p1 : W1.cell? ⟨w.heap.size, 1, none⟩ = some (.int .i64 c) := hx.cell 1 _ rfl
  have p2 : W1.cell? ⟨w.heap.size, 2, none⟩ = some (.int .i64 n) := hx.cell 2 _ rfl
  have r3 : W1.cell? ⟨R, 3, none⟩ = some (.slice ka l.length kc) := HBX.out.cell 3 _ rfl
  have HSR := mkH hs
  have HEARLY : Hid (V = l → NtP w R u0 u1 u2 V W1) := mkH (fun h => by subst h; exact ⟨ka, kc, HBX.out, HRW.out, Gf.Fr.ofBelow HAL.out⟩)
  clear hb hr hs hal hx hW1 hz
  by_cases hc : c < 1 ∨ n < 1 ∨ (lastN l c = 0 ∧ 64 ≤ l.length)
  · have HE := mkH (HEARLY.out (hV.trans (noteN_no hc)))
    clear hV HEARLY HBX HRW HX HSR HAL
    by_cases h1 : c < 1
    · go_enter Try.func42, Try.ntmps42
      go_wp2_with fail
      rw [← HW1.out]
      go_wp2
      exact bodyPost_ret (v := .tuple #[]) (results_none rfl _ _ _) rfl ⟨rfl, HE.out⟩
    · by_cases h2 : n < 1
      · go_enter Try.func42, Try.ntmps42
        go_wp2_with fail
        rw [← HW1.out]
        go_wp2
        exact bodyPost_ret (v := .tuple #[]) (results_none rfl _ _ _) rfl ⟨rfl, HE.out⟩
      · have h3 : lastN l c = 0 ∧ 64 ≤ l.length := by rcases hc with h | h | h; exact absurd h h1; exact absurd h h2; exact h
        have h4 := h3.1
        have h5 : (64 : Int) ≤ (l.length : Int) := by omega
        rw [h4] at HLA
        clear hc h3 h4
        go_enter Try.func42, Try.ntmps42
        go_wp2_with fail
        rw [← HW1.out]
        refine HLA.out.mono ?_
        rintro e w2 ⟨rfl, rfl⟩
        go_wp2
        exact bodyPost_ret (v := .tuple #[]) (results_none rfl _ _ _) rfl ⟨rfl, HE.out⟩
  · have h1 : ¬ c < 1 := fun h => hc (.inl h)
    have h2 : ¬ n < 1 := fun h => hc (.inr (.inl h))
    have HV : Hid (V = put kD l (c, n)) := mkH (hV.trans (noteN_put hc))
    have h3 : lastN l c = 0 → ¬ (64 : Int) ≤ (l.length : Int) := fun h4 h5 => hc (.inr (.inr ⟨h4, by omega⟩))
    obtain ⟨ln, hln⟩ : ∃ ln, ln = lastN l c := ⟨_, rfl⟩
    rw [← hln] at HLA h3
    clear hV hc HEARLY hln
    go_enter Try.func42, Try.ntmps42
    go_wp2_with fail
    rw [← HW1.out]
    refine HLA.out.mono ?_
    rintro e w2 ⟨rfl, rfl⟩
    have HALW := HAL
    clear HLA HW1 HAL
    have K0 : Hid (insN l c n 0 false []) := mkH ⟨by simp, rfl⟩
    have HSRT := HSR
    clear HSR
    have HZ1 : Hid (w.heap.size + 1 ≤ w2.heap.size) := mkH (by have := HZ.out; omega)
    by_cases hl0 : ln = 0
    · have h5 := h3 hl0
      subst hl0
      clear h3
      go_wp2_with fail
      go_loopw [4, 5, 6] (fun o p i wr => ∃ (k : Nat) (pb : Bool) (out : List Dd), k ≤ l.length ∧ i = .int .i64 k ∧ p = .bool pb ∧ Hid (insN l c n k pb out) ∧ Hid (wr.ownsRow (w.heap.size + 1) 107 2 o out.length (Fdd out)) ∧ Hid (Below (w.heap.size + 1) w2 wr)) (fun _ _ i _ => l.length - (intOf i).toNat)
      case atStart => exact ⟨0, false, [], Nat.zero_le _, rfl, rfl, K0, mkH (World.ownsRow_nil _ _ _ _), mkH (Below.refl _ _)⟩
      case round =>
        obtain ⟨k, pb, out, hk, rfl, rfl, HI, HO, HB⟩ := hrel
        have hwz := HB.out.size
        obtain ⟨ao, cap, rfl⟩ := own_form HO.out
        by_cases hlt : k < l.length
        · obtain ⟨x, hx⟩ := Nr.some_of hlt
          obtain ⟨b, o, e1, c0, c1⟩ := atD HRW.out hx
          subst e1
          have hblt := World.block_lt_of_cell? w2 _ c0
          have hRw2 := HBX.out.lt
          have hi : (k : Int) < (l.length : Int) := by omega
          have hi0 : (0 : Int) ≤ (k : Int) := by omega
          have HST := mkH (ins_step HSRT.out HI.out hx)
          have hol := ins_len HI.out
          have HCEL : Hid (∀ W, Below (w.heap.size + 1) w2 W → W.cell? ⟨R, 3, none⟩ = some (.slice (some ⟨b, o, none⟩) l.length kc) ∧ W.cell? ⟨w.heap.size, 1, none⟩ = some (.int .i64 c) ∧ W.cell? ⟨w.heap.size, 2, none⟩ = some (.int .i64 n) ∧ W.cell? ⟨b, o + k * 2, none⟩ = some (.int .i64 x.1) ∧ W.cell? ⟨b, o + k * 2 + 1, none⟩ = some (.int .i64 x.2)) := mkH (fun W hb => by
            have hz := HZ.out
            have hb' : Below w2.heap.size w2 W := by rw [hz]; exact hb
            exact ⟨(hb'.cell (p := ⟨R, 3, none⟩) hRw2).trans r3, (hb'.cell (p := ⟨w.heap.size, 1, none⟩) (by show w.heap.size < _; omega)).trans p1, (hb'.cell (p := ⟨w.heap.size, 2, none⟩) (by show w.heap.size < _; omega)).trans p2, (hb'.cell (p := ⟨b, o + k * 2, none⟩) hblt).trans c0, (hb'.cell (p := ⟨b, o + k * 2 + 1, none⟩) hblt).trans c1⟩)
          clear hx c0 c1 p1 p2 r3 K0
          obtain ⟨q0, q1, q2, q3, q4⟩ := HCEL.out wr HB.out
          go_upto_region 7 with fail
          obtain ⟨d, hd⟩ : ∃ d, d = decide (c ≤ x.1) := ⟨_, rfl⟩
          rw [← hd] at HST
          have HDD := mkH hd
          clear hd
          obtain ⟨t, ht⟩ : ∃ t, t = (!pb && d) := ⟨_, rfl⟩
          have HTT := mkH ht
          clear ht
          go_cut [53] (fun v53 wc => v53 = .bool t ∧ Hid (wc.ownsRow (w.heap.size + 1) 107 2 (.slice ao out.length cap) out.length (Fdd out)) ∧ Hid (Below (w.heap.size + 1) w2 wc))
          case first =>
            cases pb with
            | true =>
              go_big_quiet (fail)
              go_wp2_with fail
              go_meet
              exact ⟨by rw [HTT.out]; simp, mkH (own_below HO.out (Gf.below_drewN (Below.refl _ _) _)), mkH (Gf.below_drewN HB.out _)⟩
            | false =>
              go_quiet (fail)
              go_wp2_with fail
              go_meet
              exact ⟨by rw [HTT.out, HDD.out]; simp, mkH (own_below HO.out (Gf.below_drewN (Below.refl _ _) _)), mkH (Gf.below_drewN HB.out _)⟩
          case rest =>
            obtain ⟨rfl, HO1, HB1⟩ := hcut
            clear HO HB q0 q1 q2 q3 q4
            go_upto_if 53 with fail
            go_cut [4, 5] (fun o5 p5 wc => ∃ (out1 : List Dd), p5 = .bool (pb || d) ∧ Hid (out1 = if pb = false ∧ c ≤ x.1 then out ++ [(c, n)] else out) ∧ out1.length ≤ k + 2 ∧ Hid (wc.ownsRow (w.heap.size + 1) 107 2 o5 out1.length (Fdd out1)) ∧ Hid (Below (w.heap.size + 1) w2 wc))
            case first =>
              cases t with
              | false =>
                have HEO : Hid (out = if pb = false ∧ c ≤ x.1 then out ++ [(c, n)] else out) := mkH (by
                  rw [if_neg]
                  rintro ⟨h1, h2⟩
                  have h3 := HTT.out
                  rw [h1, HDD.out] at h3
                  simp [h2] at h3)
                have HPD : Hid (pb = (pb || d)) := mkH (by
                  have h3 := HTT.out
                  cases pb <;> cases d <;> simp at h3 ⊢)
                go_wp2_with fail
                go_meet
                exact ⟨out, by rw [← HPD.out], HEO, by omega, HO1, HB1⟩
              | true =>
                  have HEO : Hid (pb = false ∧ c ≤ x.1) := mkH (by
                    have h3 := HTT.out
                    rw [HDD.out] at h3
                    cases pb <;> simp at h3 ⊢
                    exact h3)
                  have HPD : Hid (true = (pb || d)) := mkH (by
                    have h3 := HTT.out
                    cases pb <;> cases d <;> simp at h3 ⊢)
                  have HZQ : Hid (w.heap.size + 1 ≤ wc.heap.size) := mkH (by have := HZ1.out; have := HB1.out.size; omega)
                  obtain ⟨q0, q1, q2, q3, q4⟩ := HCEL.out wc HB1.out
                  have HNW := mkH (newD wc (c, n) 107)
                  have hal : Below wc.heap.size wc (wc.alloc (.cells #[.int .i64 c, .int .i64 n] 107)) := (Below.refl _ wc).alloc (Nat.le_refl _) _
                  have HO2 := mkH (own_below HO1.out hal)
                  have HB2 := mkH (HB1.out.trans (hal.mono HZQ.out))
                  clear hal HO1 HB1
                  go_wp2_with (at_builtin; refine (wpList_append_own_src _ rfl (.tmp 54) (.tmp 60) 49 49 rfl (w.heap.size + 1) 107 (.agg #[.int .i64 0, .int .i64 0]) 2 16 Try.underlying49 infoD rfl (by decide) _ out.length (Fdd out) rfl HO2.out _ 1 (Fdd [(c, n)]) rfl HNW.out ?h632 ?hby2 ?hbs2 ?_))
                  case h632 => unfold maxLen; omega
                  case hby2 => omega
                  case hbs2 => have := HZQ.out; simp; omega
                  intro v2 w5 hown5 hgrow5
                  have hb5 := below_own HO2.out hgrow5 HB2.out (by have := HZQ.out; simp; omega)
                  go_wp2_with fail
                  go_meet
                  exact ⟨out ++ [(c, n)], by rw [← HPD.out], mkH (by rw [if_pos HEO.out]), by simp; omega, mkH (by rw [Fdd, Fl_append, List.length_append]; exact hown5), mkH hb5⟩
            case rest =>
              obtain ⟨out1, rfl, HO1e, hol1, HO2, HB2⟩ := hcut
              have HZC : Hid (w.heap.size + 1 ≤ wc.heap.size) := mkH (by have := HZ1.out; have := HB2.out.size; omega)
              obtain ⟨ao1, cap1, rfl⟩ := own_form HO2.out
              obtain ⟨q0, q1, q2, q3, q4⟩ := HCEL.out wc HB2.out
              rw [← HO1e.out] at HST
              clear HO1 HB1 HI HO1e
              by_cases hxc : x.1 = c
              · have HST2 : Hid (insN l c n (k + 1) (pb || d) out1) := mkH (by have h := HST.out; rw [if_pos hxc, List.append_nil] at h; exact h)
                clear HST
                go_wp2_with fail
                go_quiet (fail)
                have HB3 : Hid (Below (w.heap.size + 1) w2 (wc.drewN nq)) := mkH (Gf.below_drewN HB2.out _)
                have HO3 := mkH (own_below HO2.out (Gf.below_drewN (Below.refl _ wc) nq))
                clear HO2 HB2
                go_wp2_with fail
                go_roundw
                case rel => exact ⟨k + 1, _, out1, by omega, by go_num, rfl, HST2, HO3, HB3⟩
                case measure => simp [intOf]; omega
              · have HST2 : Hid (insN l c n (k + 1) (pb || d) (out1 ++ [x])) := mkH (by have h := HST.out; rw [if_neg hxc] at h; exact h)
                clear HST
                go_wp2_with fail
                go_quiet (fail)
                have HB1 : Hid (Below (w.heap.size + 1) w2 (wc.drewN nq)) := mkH (Gf.below_drewN HB2.out _)
                have HO1 := mkH (own_below HO2.out (Gf.below_drewN (Below.refl _ wc) nq))
                have HZQ : Hid (w.heap.size + 1 ≤ (wc.drewN nq).heap.size) := HZC
                generalize wc.drewN nq = w3 at *
                obtain ⟨q0, q1, q2, q3, q4⟩ := HCEL.out w3 HB1.out
                have HNW := mkH (newD w3 x 107)
                have hal : Below w3.heap.size w3 (w3.alloc (.cells #[.int .i64 x.1, .int .i64 x.2] 107)) := (Below.refl _ w3).alloc (Nat.le_refl _) _
                have HO4 := mkH (own_below HO1.out hal)
                have HB4 := mkH (HB1.out.trans (hal.mono HZQ.out))
                clear hal HO1 HB1 HO2 HB2
                go_wp2_with (at_builtin; refine (wpList_append_own_src _ rfl (.tmp 73) (.tmp 81) 49 49 rfl (w.heap.size + 1) 107 (.agg #[.int .i64 0, .int .i64 0]) 2 16 Try.underlying49 infoD rfl (by decide) _ out1.length (Fdd out1) rfl HO4.out _ 1 (Fdd [x]) rfl HNW.out ?h632 ?hby2 ?hbs2 ?_))
                case h632 => unfold maxLen; omega
                case hby2 => omega
                case hbs2 => have := HZQ.out; simp; omega
                intro v2 w5 hown5 hgrow5
                have hb5 := below_own HO4.out hgrow5 HB4.out (by have := HZQ.out; simp; omega)
                have HO5 : Hid (w5.ownsRow (w.heap.size + 1) 107 2 v2 (out1 ++ [x]).length (Fdd (out1 ++ [x]))) := mkH (by rw [Fdd, Fl_append, List.length_append]; exact hown5)
                have HB5 := mkH hb5
                clear hb5 hown5 hgrow5 HO4 HB4
                go_wp2_with fail
                go_roundw
                case rel => exact ⟨k + 1, _, out1 ++ [x], by omega, by go_num, rfl, HST2, HO5, HB5⟩
                case measure => simp [intOf]; omega
        · have hkl : k = l.length := by omega
          subst hkl
          have hol := ins_len HI.out
          have HBX3 : Hid (Bx wr R #[u0, u1, u2, .slice ka l.length kc] 51) := mkH (HBX.out.bel (by rw [HZ.out]; exact HB.out))
          have q1 : wr.cell? ⟨w.heap.size, 1, none⟩ = some (.int .i64 c) := (HB.out.cell (p := ⟨w.heap.size, 1, none⟩) (by show w.heap.size < _; omega)).trans p1
          have q2 : wr.cell? ⟨w.heap.size, 2, none⟩ = some (.int .i64 n) := (HB.out.cell (p := ⟨w.heap.size, 2, none⟩) (by show w.heap.size < _; omega)).trans p2
          have q3 : wr.cell? ⟨R, 3, none⟩ = some (.slice ka l.length kc) := HBX3.out.cell 3 _ rfl
          have z3 : wr.frozen? ⟨R, 3, none⟩ = false := HBX3.out.frozen 3
          have HZQ : Hid (w.heap.size + 1 ≤ wr.heap.size) := mkH (by have := HZ1.out; omega)
          have HVF := HV
          have HII := HI
          clear p1 p2 r3 K0 HBX HI
          cases pb with
          | true =>
            have HEQ : Hid (out = V) := mkH (by rw [HVF.out, HII.out.2, List.take_length]; rfl)
            go_wp2
            refine bodyPost_end (results_none rfl _ _ _) rfl ?_; exact ⟨rfl, note_end HEQ.out HBX3.out HO.out HALW.out HZ.out HB.out hRlt⟩
          | false =>
            have HEQ : Hid (out ++ [(c, n)] = V) := mkH (by rw [HVF.out]; exact ins_end HII.out)
            have HNW := mkH (newD wr (c, n) 107)
            have hal : Below wr.heap.size wr (wr.alloc (.cells #[.int .i64 c, .int .i64 n] 107)) := (Below.refl _ wr).alloc (Nat.le_refl _) _
            have HO4 := mkH (own_below HO.out hal)
            have HB4 := mkH (HB.out.trans (hal.mono HZQ.out))
            have HBX4 := mkH (HBX3.out.bel hal)
            clear hal HO HB HBX3
            go_wp2_with (at_builtin; refine (wpList_append_own_src _ rfl (.tmp 85) (.tmp 91) 49 49 rfl (w.heap.size + 1) 107 (.agg #[.int .i64 0, .int .i64 0]) 2 16 Try.underlying49 infoD rfl (by decide) _ out.length (Fdd out) rfl HO4.out _ 1 (Fdd [(c, n)]) rfl HNW.out ?h632 ?hby2 ?hbs2 ?_))
            case h632 => unfold maxLen; omega
            case hby2 => omega
            case hbs2 => have := HZQ.out; simp; omega
            intro v2 w5 hown5 hgrow5
            have hb5 := below_own HO4.out hgrow5 HB4.out (by have := HZQ.out; simp; omega)
            have hbx5 : Bx w5 R #[u0, u1, u2, .slice ka l.length kc] 51 := Bx.below HBX4.out (below_own HO4.out hgrow5 (Below.refl _ _) (by have := HZQ.out; simp; omega)) (by omega)
            have HO5 : Hid (w5.ownsRow (w.heap.size + 1) 107 2 v2 (out ++ [(c, n)]).length (Fdd (out ++ [(c, n)]))) := mkH (by rw [Fdd, Fl_append, List.length_append]; exact hown5)
            obtain ⟨a5, k5, rfl⟩ := own_form HO5.out
            have HB5 := mkH hb5
            have HBX5 := mkH hbx5
            have r3 : w5.cell? ⟨R, 3, none⟩ = some (.slice ka l.length kc) := hbx5.cell 3 _ rfl
            have z4 : w5.frozen? ⟨R, 3, none⟩ = false := hbx5.frozen 3
            clear hb5 hown5 hgrow5 HO4 HB4 hbx5 HBX4
            go_wp2
            refine bodyPost_end (results_none rfl _ _ _) rfl ?_
            have hne := note_end HEQ.out HBX5.out HO5.out HALW.out HZ.out HB5.out hRlt
            rw [show (out ++ [(c, n)]).length = out.length + 1 by simp] at hne
            exact ⟨rfl, hne⟩
    · clear h3
      go_wp2_with fail
      go_loopw [4, 5, 6] (fun o p i wr => ∃ (k : Nat) (pb : Bool) (out : List Dd), k ≤ l.length ∧ i = .int .i64 k ∧ p = .bool pb ∧ Hid (insN l c n k pb out) ∧ Hid (wr.ownsRow (w.heap.size + 1) 107 2 o out.length (Fdd out)) ∧ Hid (Below (w.heap.size + 1) w2 wr)) (fun _ _ i _ => l.length - (intOf i).toNat)
      case atStart => exact ⟨0, false, [], Nat.zero_le _, rfl, rfl, K0, mkH (World.ownsRow_nil _ _ _ _), mkH (Below.refl _ _)⟩
      case round =>
        obtain ⟨k, pb, out, hk, rfl, rfl, HI, HO, HB⟩ := hrel
        have hwz := HB.out.size
        obtain ⟨ao, cap, rfl⟩ := own_form HO.out
        by_cases hlt : k < l.length
        · obtain ⟨x, hx⟩ := Nr.some_of hlt
          obtain ⟨b, o, e1, c0, c1⟩ := atD HRW.out hx
          subst e1
          have hblt := World.block_lt_of_cell? w2 _ c0
          have hRw2 := HBX.out.lt
          have hi : (k : Int) < (l.length : Int) := by omega
          have hi0 : (0 : Int) ≤ (k : Int) := by omega
          have HST := mkH (ins_step HSRT.out HI.out hx)
          have hol := ins_len HI.out
          have HCEL : Hid (∀ W, Below (w.heap.size + 1) w2 W → W.cell? ⟨R, 3, none⟩ = some (.slice (some ⟨b, o, none⟩) l.length kc) ∧ W.cell? ⟨w.heap.size, 1, none⟩ = some (.int .i64 c) ∧ W.cell? ⟨w.heap.size, 2, none⟩ = some (.int .i64 n) ∧ W.cell? ⟨b, o + k * 2, none⟩ = some (.int .i64 x.1) ∧ W.cell? ⟨b, o + k * 2 + 1, none⟩ = some (.int .i64 x.2)) := mkH (fun W hb => by
            have hz := HZ.out
            have hb' : Below w2.heap.size w2 W := by rw [hz]; exact hb
            exact ⟨(hb'.cell (p := ⟨R, 3, none⟩) hRw2).trans r3, (hb'.cell (p := ⟨w.heap.size, 1, none⟩) (by show w.heap.size < _; omega)).trans p1, (hb'.cell (p := ⟨w.heap.size, 2, none⟩) (by show w.heap.size < _; omega)).trans p2, (hb'.cell (p := ⟨b, o + k * 2, none⟩) hblt).trans c0, (hb'.cell (p := ⟨b, o + k * 2 + 1, none⟩) hblt).trans c1⟩)
          clear hx c0 c1 p1 p2 r3 K0
          obtain ⟨q0, q1, q2, q3, q4⟩ := HCEL.out wr HB.out
          go_upto_region 7 with fail
          obtain ⟨d, hd⟩ : ∃ d, d = decide (c ≤ x.1) := ⟨_, rfl⟩
          rw [← hd] at HST
          have HDD := mkH hd
          clear hd
          obtain ⟨t, ht⟩ : ∃ t, t = (!pb && d) := ⟨_, rfl⟩
          have HTT := mkH ht
          clear ht
          go_cut [53] (fun v53 wc => v53 = .bool t ∧ Hid (wc.ownsRow (w.heap.size + 1) 107 2 (.slice ao out.length cap) out.length (Fdd out)) ∧ Hid (Below (w.heap.size + 1) w2 wc))
          case first =>
            cases pb with
            | true =>
              go_big_quiet (fail)
              go_wp2_with fail
              go_meet
              exact ⟨by rw [HTT.out]; simp, mkH (own_below HO.out (Gf.below_drewN (Below.refl _ _) _)), mkH (Gf.below_drewN HB.out _)⟩
            | false =>
              go_quiet (fail)
              go_wp2_with fail
              go_meet
              exact ⟨by rw [HTT.out, HDD.out]; simp, mkH (own_below HO.out (Gf.below_drewN (Below.refl _ _) _)), mkH (Gf.below_drewN HB.out _)⟩
          case rest =>
            obtain ⟨rfl, HO1, HB1⟩ := hcut
            clear HO HB q0 q1 q2 q3 q4
            go_upto_if 53 with fail
            go_cut [4, 5] (fun o5 p5 wc => ∃ (out1 : List Dd), p5 = .bool (pb || d) ∧ Hid (out1 = if pb = false ∧ c ≤ x.1 then out ++ [(c, n)] else out) ∧ out1.length ≤ k + 2 ∧ Hid (wc.ownsRow (w.heap.size + 1) 107 2 o5 out1.length (Fdd out1)) ∧ Hid (Below (w.heap.size + 1) w2 wc))
            case first =>
              cases t with
              | false =>
                have HEO : Hid (out = if pb = false ∧ c ≤ x.1 then out ++ [(c, n)] else out) := mkH (by
                  rw [if_neg]
                  rintro ⟨h1, h2⟩
                  have h3 := HTT.out
                  rw [h1, HDD.out] at h3
                  simp [h2] at h3)
                have HPD : Hid (pb = (pb || d)) := mkH (by
                  have h3 := HTT.out
                  cases pb <;> cases d <;> simp at h3 ⊢)
                go_wp2_with fail
                go_meet
                exact ⟨out, by rw [← HPD.out], HEO, by omega, HO1, HB1⟩
              | true =>
                  have HEO : Hid (pb = false ∧ c ≤ x.1) := mkH (by
                    have h3 := HTT.out
                    rw [HDD.out] at h3
                    cases pb <;> simp at h3 ⊢
                    exact h3)
                  have HPD : Hid (true = (pb || d)) := mkH (by
                    have h3 := HTT.out
                    cases pb <;> cases d <;> simp at h3 ⊢)
                  have HZQ : Hid (w.heap.size + 1 ≤ wc.heap.size) := mkH (by have := HZ1.out; have := HB1.out.size; omega)
                  obtain ⟨q0, q1, q2, q3, q4⟩ := HCEL.out wc HB1.out
                  have HNW := mkH (newD wc (c, n) 107)
                  have hal : Below wc.heap.size wc (wc.alloc (.cells #[.int .i64 c, .int .i64 n] 107)) := (Below.refl _ wc).alloc (Nat.le_refl _) _
                  have HO2 := mkH (own_below HO1.out hal)
                  have HB2 := mkH (HB1.out.trans (hal.mono HZQ.out))
                  clear hal HO1 HB1
                  go_wp2_with (at_builtin; refine (wpList_append_own_src _ rfl (.tmp 54) (.tmp 60) 49 49 rfl (w.heap.size + 1) 107 (.agg #[.int .i64 0, .int .i64 0]) 2 16 Try.underlying49 infoD rfl (by decide) _ out.length (Fdd out) rfl HO2.out _ 1 (Fdd [(c, n)]) rfl HNW.out ?h632 ?hby2 ?hbs2 ?_))
                  case h632 => unfold maxLen; omega
                  case hby2 => omega
                  case hbs2 => have := HZQ.out; simp; omega
                  intro v2 w5 hown5 hgrow5
                  have hb5 := below_own HO2.out hgrow5 HB2.out (by have := HZQ.out; simp; omega)
                  go_wp2_with fail
                  go_meet
                  exact ⟨out ++ [(c, n)], by rw [← HPD.out], mkH (by rw [if_pos HEO.out]), by simp; omega, mkH (by rw [Fdd, Fl_append, List.length_append]; exact hown5), mkH hb5⟩
            case rest =>
              obtain ⟨out1, rfl, HO1e, hol1, HO2, HB2⟩ := hcut
              have HZC : Hid (w.heap.size + 1 ≤ wc.heap.size) := mkH (by have := HZ1.out; have := HB2.out.size; omega)
              obtain ⟨ao1, cap1, rfl⟩ := own_form HO2.out
              obtain ⟨q0, q1, q2, q3, q4⟩ := HCEL.out wc HB2.out
              rw [← HO1e.out] at HST
              clear HO1 HB1 HI HO1e
              by_cases hxc : x.1 = c
              · have HST2 : Hid (insN l c n (k + 1) (pb || d) out1) := mkH (by have h := HST.out; rw [if_pos hxc, List.append_nil] at h; exact h)
                clear HST
                go_wp2_with fail
                go_quiet (fail)
                have HB3 : Hid (Below (w.heap.size + 1) w2 (wc.drewN nq)) := mkH (Gf.below_drewN HB2.out _)
                have HO3 := mkH (own_below HO2.out (Gf.below_drewN (Below.refl _ wc) nq))
                clear HO2 HB2
                go_wp2_with fail
                go_roundw
                case rel => exact ⟨k + 1, _, out1, by omega, by go_num, rfl, HST2, HO3, HB3⟩
                case measure => simp [intOf]; omega
              · have HST2 : Hid (insN l c n (k + 1) (pb || d) (out1 ++ [x])) := mkH (by have h := HST.out; rw [if_neg hxc] at h; exact h)
                clear HST
                go_wp2_with fail
                go_quiet (fail)
                have HB1 : Hid (Below (w.heap.size + 1) w2 (wc.drewN nq)) := mkH (Gf.below_drewN HB2.out _)
                have HO1 := mkH (own_below HO2.out (Gf.below_drewN (Below.refl _ wc) nq))
                have HZQ : Hid (w.heap.size + 1 ≤ (wc.drewN nq).heap.size) := HZC
                generalize wc.drewN nq = w3 at *
                obtain ⟨q0, q1, q2, q3, q4⟩ := HCEL.out w3 HB1.out
                have HNW := mkH (newD w3 x 107)
                have hal : Below w3.heap.size w3 (w3.alloc (.cells #[.int .i64 x.1, .int .i64 x.2] 107)) := (Below.refl _ w3).alloc (Nat.le_refl _) _
                have HO4 := mkH (own_below HO1.out hal)
                have HB4 := mkH (HB1.out.trans (hal.mono HZQ.out))
                clear hal HO1 HB1 HO2 HB2
                go_wp2_with (at_builtin; refine (wpList_append_own_src _ rfl (.tmp 73) (.tmp 81) 49 49 rfl (w.heap.size + 1) 107 (.agg #[.int .i64 0, .int .i64 0]) 2 16 Try.underlying49 infoD rfl (by decide) _ out1.length (Fdd out1) rfl HO4.out _ 1 (Fdd [x]) rfl HNW.out ?h632 ?hby2 ?hbs2 ?_))
                case h632 => unfold maxLen; omega
                case hby2 => omega
                case hbs2 => have := HZQ.out; simp; omega
                intro v2 w5 hown5 hgrow5
                have hb5 := below_own HO4.out hgrow5 HB4.out (by have := HZQ.out; simp; omega)
                have HO5 : Hid (w5.ownsRow (w.heap.size + 1) 107 2 v2 (out1 ++ [x]).length (Fdd (out1 ++ [x]))) := mkH (by rw [Fdd, Fl_append, List.length_append]; exact hown5)
                have HB5 := mkH hb5
                clear hb5 hown5 hgrow5 HO4 HB4
                go_wp2_with fail
                go_roundw
                case rel => exact ⟨k + 1, _, out1 ++ [x], by omega, by go_num, rfl, HST2, HO5, HB5⟩
                case measure => simp [intOf]; omega
        · have hkl : k = l.length := by omega
          subst hkl
          have hol := ins_len HI.out
          have HBX3 : Hid (Bx wr R #[u0, u1, u2, .slice ka l.length kc] 51) := mkH (HBX.out.bel (by rw [HZ.out]; exact HB.out))
          have q1 : wr.cell? ⟨w.heap.size, 1, none⟩ = some (.int .i64 c) := (HB.out.cell (p := ⟨w.heap.size, 1, none⟩) (by show w.heap.size < _; omega)).trans p1
          have q2 : wr.cell? ⟨w.heap.size, 2, none⟩ = some (.int .i64 n) := (HB.out.cell (p := ⟨w.heap.size, 2, none⟩) (by show w.heap.size < _; omega)).trans p2
          have q3 : wr.cell? ⟨R, 3, none⟩ = some (.slice ka l.length kc) := HBX3.out.cell 3 _ rfl
          have z3 : wr.frozen? ⟨R, 3, none⟩ = false := HBX3.out.frozen 3
          have HZQ : Hid (w.heap.size + 1 ≤ wr.heap.size) := mkH (by have := HZ1.out; omega)
          have HVF := HV
          have HII := HI
          clear p1 p2 r3 K0 HBX HI
          cases pb with
          | true =>
            have HEQ : Hid (out = V) := mkH (by rw [HVF.out, HII.out.2, List.take_length]; rfl)
            go_wp2
            refine bodyPost_end (results_none rfl _ _ _) rfl ?_; exact ⟨rfl, note_end HEQ.out HBX3.out HO.out HALW.out HZ.out HB.out hRlt⟩
          | false =>
            have HEQ : Hid (out ++ [(c, n)] = V) := mkH (by rw [HVF.out]; exact ins_end HII.out)
            have HNW := mkH (newD wr (c, n) 107)
            have hal : Below wr.heap.size wr (wr.alloc (.cells #[.int .i64 c, .int .i64 n] 107)) := (Below.refl _ wr).alloc (Nat.le_refl _) _
            have HO4 := mkH (own_below HO.out hal)
            have HB4 := mkH (HB.out.trans (hal.mono HZQ.out))
            have HBX4 := mkH (HBX3.out.bel hal)
            clear hal HO HB HBX3
            go_wp2_with (at_builtin; refine (wpList_append_own_src _ rfl (.tmp 85) (.tmp 91) 49 49 rfl (w.heap.size + 1) 107 (.agg #[.int .i64 0, .int .i64 0]) 2 16 Try.underlying49 infoD rfl (by decide) _ out.length (Fdd out) rfl HO4.out _ 1 (Fdd [(c, n)]) rfl HNW.out ?h632 ?hby2 ?hbs2 ?_))
            case h632 => unfold maxLen; omega
            case hby2 => omega
            case hbs2 => have := HZQ.out; simp; omega
            intro v2 w5 hown5 hgrow5
            have hb5 := below_own HO4.out hgrow5 HB4.out (by have := HZQ.out; simp; omega)
            have hbx5 : Bx w5 R #[u0, u1, u2, .slice ka l.length kc] 51 := Bx.below HBX4.out (below_own HO4.out hgrow5 (Below.refl _ _) (by have := HZQ.out; simp; omega)) (by omega)
            have HO5 : Hid (w5.ownsRow (w.heap.size + 1) 107 2 v2 (out ++ [(c, n)]).length (Fdd (out ++ [(c, n)]))) := mkH (by rw [Fdd, Fl_append, List.length_append]; exact hown5)
            obtain ⟨a5, k5, rfl⟩ := own_form HO5.out
            have HB5 := mkH hb5
            have HBX5 := mkH hbx5
            have r3 : w5.cell? ⟨R, 3, none⟩ = some (.slice ka l.length kc) := hbx5.cell 3 _ rfl
            have z4 : w5.frozen? ⟨R, 3, none⟩ = false := hbx5.frozen 3
            clear hb5 hown5 hgrow5 HO4 HB4 hbx5 HBX4
            go_wp2
            refine bodyPost_end (results_none rfl _ _ _) rfl ?_
            have hne := note_end HEQ.out HBX5.out HO5.out HALW.out HZ.out HB5.out hRlt
            rw [show (out ++ [(c, n)]).length = out.length + 1 by simp] at hne
            exact ⟨rfl, hne⟩
end Go.Proofs.Ytcpmcfagibmboaa.Mo

namespace Go.Proofs.Ytcpmcfagibmboaa.Ci
open Go.RowKit Pl Pw Pr Pf Pv Cp Ca Cb Cc Cd Ce Cf Cg Ch Gf Gk
open Cr hiding some_of
open Kt hiding mkH
open Kv
set_option linter.unusedVariables false
set_option linter.unusedSimpArgs false
set_option maxRecDepth 20000

/-- The shard of the piece ahead of a place. -/
def pvS (ps : List Pc) (k : Nat) : Int := if k = 0 then 0 else match ps[k - 1]? with | some y => y.2.2 | none => 0
theorem pvS_succ {ps : List Pc} {k : Nat} {x : Pc} (h : ps[k]? = some x) : pvS ps (k + 1) = x.2.2 := by
  unfold pvS; rw [if_neg (by omega), Nat.add_sub_cancel, h]
theorem gd_step {ps : List Pc} {k : Nat} {x : Pc} (h : ps[k]? = some x) (a s b : Int) : Gd a s (ps.drop k) b ↔ x.1 = a ∧ a < x.2.1 ∧ x.2.2 ≠ s ∧ (1 ≤ x.2.2 ∧ x.2.2 ≤ 6) ∧ Gd x.2.1 x.2.2 (ps.drop (k + 1)) b := by
  have hk := Cr.lt_of h
  rw [List.drop_eq_getElem_cons hk]
  rw [List.getElem?_eq_getElem hk] at h
  injection h with h
  rw [h]; rfl

set_option maxHeartbeats 4000000 in
theorem rmay_any (w : World) (e : Int) (ao : Option Addr) (cap : Nat) (ps : List Pc) (h : RdP w ao cap ps) (hl : ps.length ≤ 100000) :
    Calls Try.prog 30 #[.agg #[.int .i64 e, .slice ao ps.length cap]] w fun x w' => x = .returned (.bool (mayC e ps)) ∧ Below w.heap.size w w' := by
  obtain ⟨V, hV⟩ : ∃ V, V = mayC e ps := ⟨_, rfl⟩
  rw [← hV]
  have HV := mkH hV
  clear hV
  have HX : Hid (Bx (w.alloc (.cells #[.int .i64 e, .slice ao ps.length cap] 24)) w.heap.size #[.int .i64 e, .slice ao ps.length cap] 24) := mkH (Bx.new _ _ _)
  have HB0 := mkH ((Below.refl w.heap.size w).alloc (Nat.le_refl _) (.cells #[.int .i64 e, .slice ao ps.length cap] 24))
  have HR := mkH (h.below HB0.out)
  clear h
  by_cases h1 : e < 1
  · have HE := mkH (HV.out.trans (mayC_low e ps (by omega)))
    go_enter Try.func30, Try.ntmps30
    go_wp2
    go_ret
    exact ⟨by rw [HE.out]; rfl, HB0.out⟩
  · by_cases h2 : 1099511627776 < e
    · have HE := mkH (HV.out.trans (mayC_low e ps (by omega)))
      go_enter Try.func30, Try.ntmps30
      go_wp2
      go_ret
      exact ⟨by rw [HE.out]; rfl, HB0.out⟩
    · have HI : Hid (V = true ↔ Gd 0 0 ps 65536) := mkH (by rw [HV.out, mayC_iff]; exact ⟨fun hh => hh.2, fun hh => ⟨⟨by omega, by omega⟩, hh⟩⟩)
      clear HV
      go_enter Try.func30, Try.ntmps30
      go_wp2
      generalize w.alloc (.cells #[.int .i64 e, .slice ao ps.length cap] 24) = W0 at *
      go_loopw [3, 4] (fun u i wr => ∃ (k : Nat) (a : Int), k ≤ ps.length ∧ i = .int .i64 k ∧ u = .int .i64 a ∧ Hid (V = true ↔ Gd a (pvS ps k) (ps.drop k) 65536) ∧ Hid (Below W0.heap.size W0 wr)) (fun _ i _ => ps.length - (intOf i).toNat)
      case atStart => exact ⟨0, 0, Nat.zero_le _, rfl, rfl, HI, mkH (Below.refl _ _)⟩
      case round =>
        obtain ⟨k, a, hk, rfl, rfl, HF, HB⟩ := hrel
        clear HI
        have HX1 := mkH (HX.out.bel HB.out)
        have HW := mkH (HB0.out.trans (HB.out.mono HB0.out.size))
        obtain ⟨x0, x1, -, -⟩ := two_load (P := Try.prog) HX1.out
        by_cases hlt : k < ps.length
        · obtain ⟨x, hx⟩ := Cr.some_of hlt
          obtain ⟨b, o, e1, c0, c1, c2⟩ := atP (HR.out.r.below HB.out) hx
          subst e1
          have hi : (k : Int) < (ps.length : Int) := by omega
          have hi0 : (0 : Int) ≤ (k : Int) := by omega
          have HG := gd_step hx a (pvS ps k) 65536
          rw [← HF.out] at HG
          have HGG := mkH HG
          have HPS := mkH (pvS_succ hx)
          have HNX : Hid (Gd x.2.1 x.2.2 (ps.drop (k + 1)) 65536 → x.2.1 ≤ 65536) := mkH (fun hh => gd_le _ _ _ _ hh)
          have HPV : Hid (∀ y, 0 < k → ps[k - 1]? = some y → pvS ps k = y.2.2) := mkH (fun y h0 hy => by unfold pvS; rw [if_neg (by omega), hy])
          have HP0 : Hid (k = 0 → pvS ps k = 0) := mkH (fun h0 => by unfold pvS; rw [if_pos h0])
          have hwn : (wr.alloc (.cells #[.int .i64 x.1, .int .i64 x.2.1, .int .i64 x.2.2] 63)).heap.size = wr.heap.size + 1 := by simp
          have HBN := mkH (HB.out.alloc HB.out.size (.cells #[.int .i64 x.1, .int .i64 x.2.1, .int .i64 x.2.2] 63))
          have HPX : Hid (Bx (wr.alloc (.cells #[.int .i64 x.1, .int .i64 x.2.1, .int .i64 x.2.2] 63)) wr.heap.size #[.int .i64 x.1, .int .i64 x.2.1, .int .i64 x.2.2] 63) := mkH (Bx.new _ _ _)
          have HXN := mkH (HX.out.bel HBN.out)
          have HRN := mkH (HR.out.below HBN.out)
          have HXX := mkH hx
          clear HG hx hwn HF
          go_wp2_with fail
          clear c0 c1 c2 x0 x1
          generalize wr.heap.size = b5 at *
          generalize wr.alloc (.cells #[.int .i64 x.1, .int .i64 x.2.1, .int .i64 x.2.2] 63) = W4 at *
          obtain ⟨x0, x1, -, -⟩ := two_load (P := Try.prog) HXN.out
          have m0 := HPX.out.cell 0 _ rfl
          have m1 := HPX.out.cell 1 _ rfl
          have m2 := HPX.out.cell 2 _ rfl
          obtain ⟨p1, p2, p3⟩ := x
          simp only at m0 m1 m2 HGG HPS HNX
          by_cases a1 : p1 = a
          · subst a1
            have k0 : (p1 != p1) = false := by simp
            by_cases a2 : p2 ≤ p1
            · have HE : Hid (V = false) := mkH (by rw [← Bool.not_eq_true, HGG.out]; exact fun hh => by have := hh.2.1; omega)
              skip
              go_quiet (fail)
              go_wp2
              go_ret
              exact ⟨by rw [HE.out]; rfl, Gf.below_drewN (HB0.out.trans (HBN.out.mono HB0.out.size)) _⟩
            · by_cases a3 : 65536 < p2
              · have HE : Hid (V = false) := mkH (by rw [← Bool.not_eq_true, HGG.out]; exact fun hh => by have := HNX.out hh.2.2.2.2; omega)
                skip
                go_quiet (fail)
                go_wp2
                go_ret
                exact ⟨by rw [HE.out]; rfl, Gf.below_drewN (HB0.out.trans (HBN.out.mono HB0.out.size)) _⟩
              · by_cases a4 : p3 < 1
                · have HE : Hid (V = false) := mkH (by rw [← Bool.not_eq_true, HGG.out]; exact fun hh => by have := hh.2.2.2.1; omega)
                  skip
                  go_quiet (fail)
                  go_wp2
                  go_ret
                  exact ⟨by rw [HE.out]; rfl, Gf.below_drewN (HB0.out.trans (HBN.out.mono HB0.out.size)) _⟩
                · by_cases a5 : 6 < p3
                  · have HE : Hid (V = false) := mkH (by rw [← Bool.not_eq_true, HGG.out]; exact fun hh => by have := hh.2.2.2.1; omega)
                    skip
                    go_quiet (fail)
                    go_wp2
                    go_ret
                    exact ⟨by rw [HE.out]; rfl, Gf.below_drewN (HB0.out.trans (HBN.out.mono HB0.out.size)) _⟩
                  · by_cases a6 : k = 0
                    · subst a6
                      have HF2 : Hid (V = true ↔ Gd p2 (pvS ps (0 + 1)) (ps.drop (0 + 1)) 65536) := mkH (by
                        rw [HGG.out, HPS.out, HP0.out rfl]
                        exact ⟨fun hh => hh.2.2.2.2, fun hh => ⟨rfl, by omega, by omega, ⟨by omega, by omega⟩, hh⟩⟩)
                      clear HGG HPS HP0 HPV
                      go_quiet (fail)
                      have HBQ : Hid (Below W0.heap.size W0 (W4.drewN nq)) := mkH (Gf.below_drewN HBN.out _)
                      obtain ⟨n0, n1, n2⟩ : (W4.drewN nq).cell? ⟨b5, 0, none⟩ = some (.int .i64 p1) ∧ (W4.drewN nq).cell? ⟨b5, 1, none⟩ = some (.int .i64 p2) ∧ (W4.drewN nq).cell? ⟨b5, 2, none⟩ = some (.int .i64 p3) := ⟨m0, m1, m2⟩
                      generalize W4.drewN nq = W5 at *
                      clear m0 m1 m2 x0 x1
                      go_wp2
                      go_roundw
                      case rel => exact ⟨0 + 1, p2, by omega, by go_num, rfl, HF2, HBQ⟩
                      case measure => simp [intOf]; omega
                    · obtain ⟨y, hy⟩ := Cr.some_of (show k - 1 < ps.length by omega)
                      have hpv := HPV.out y (by omega) hy
                      obtain ⟨b', o', e1, d0, d1, d2⟩ := atP HRN.out.r hy
                      simp only [Option.some.injEq, Addr.mk.injEq, and_true] at e1
                      obtain ⟨rfl, rfl⟩ := e1
                      have hk1 : (0 : Int) < (k : Int) := by omega
                      have hk1n : 0 < k := by omega
                      have hk2n : k - 1 < ps.length := by omega
                      have hk2 : ((k - 1 : Nat) : Int) < (ps.length : Int) := by omega
                      have hk3 : (0 : Int) ≤ ((k - 1 : Nat) : Int) := by omega
                      have hkk : ((k : Int) - 1) = ((k - 1 : Nat) : Int) := by omega
                      have y2 : IntKind.i64.wrap ((k - 1 : Nat) : Int) = ((k - 1 : Nat) : Int) := IntWalk.i64_in _ (by omega)
                      have y1 : IntKind.i64.wrap ((k : Int) - 1) = ((k - 1 : Nat) : Int) := by rw [hkk]; exact y2
                      obtain ⟨z1, z2, z3⟩ := y
                      simp only at d0 d1 d2 hpv
                      have HPV2 := mkH hpv
                      clear hy hpv
                      generalize k - 1 = kj at *
                      by_cases a7 : p3 = z3
                      · have HE : Hid (V = false) := mkH (by rw [← Bool.not_eq_true, HGG.out]; exact fun hh => hh.2.2.1 (by rw [HPV2.out]; exact a7))
                        subst a7
                        have k5 : (p3 == p3) = true := by simp
                        go_quiet (fail)
                        go_wp2
                        go_ret
                        exact ⟨by rw [HE.out]; rfl, Gf.below_drewN (HB0.out.trans (HBN.out.mono HB0.out.size)) _⟩
                      · have k5 : (p3 == z3) = false := by simp [a7]
                        have HF2 : Hid (V = true ↔ Gd p2 (pvS ps (k + 1)) (ps.drop (k + 1)) 65536) := mkH (by
                          rw [HGG.out, HPS.out, HPV2.out]
                          exact ⟨fun hh => hh.2.2.2.2, fun hh => ⟨rfl, by omega, a7, ⟨by omega, by omega⟩, hh⟩⟩)
                        clear HGG HPS HP0 HPV HPV2
                        go_quiet (fail)
                        have HBQ : Hid (Below W0.heap.size W0 (W4.drewN nq)) := mkH (Gf.below_drewN HBN.out _)
                        obtain ⟨n0, n1, n2⟩ : (W4.drewN nq).cell? ⟨b5, 0, none⟩ = some (.int .i64 p1) ∧ (W4.drewN nq).cell? ⟨b5, 1, none⟩ = some (.int .i64 p2) ∧ (W4.drewN nq).cell? ⟨b5, 2, none⟩ = some (.int .i64 p3) := ⟨m0, m1, m2⟩
                        generalize W4.drewN nq = W5 at *
                        clear m0 m1 m2 x0 x1 d0 d1 d2 y1 y2
                        go_wp2
                        go_roundw
                        case rel => exact ⟨k + 1, p2, by omega, by go_num, rfl, HF2, HBQ⟩
                        case measure => simp [intOf]; omega
          · have HE : Hid (V = false) := mkH (by rw [← Bool.not_eq_true, HGG.out]; exact fun hh => a1 hh.1)
            have k1 : (p1 != a) = true := by simp [a1]
            have k2 : (p1 == a) = false := by simp [a1]
            go_quiet (fail)
            go_wp2
            go_ret
            exact ⟨by rw [HE.out]; rfl, Gf.below_drewN (HB0.out.trans (HBN.out.mono HB0.out.size)) _⟩
        · have : k = ps.length := by omega
          subst this
          rw [List.drop_length] at HF
          have HF2 : Hid (V = decide (a = 65536)) := mkH (by rw [Bool.eq_iff_iff, HF.out, decide_eq_true_eq]; exact Iff.rfl)
          clear HF
          go_wp2
          go_ret
          exact ⟨by rw [HF2.out]; rfl, HW.out⟩
end Go.Proofs.Ytcpmcfagibmboaa.Ci

namespace Go.Proofs.Ytcpmcfagibmboaa.Rf
open Go.RowKit Kt Pl Rd Wr Fw Ad At
set_option linter.unusedVariables false

set_option maxHeartbeats 400000 in
set_option maxRecDepth 20000 in
theorem refNum_ok (w : World) (ao : Option Addr) (cap n : Nat) (bs : List UInt8) (hr : Row w ao bs) (hlen : bs.length ≤ 1000000000) (hn : n ≤ 4611686018427387904) :
    Calls Try.prog 49 #[.slice ao bs.length cap, .int .i64 n] w fun e w' => ∃ v', e = .returned (.tuple #[v', .int .i64 0]) ∧ w'.ownsRow w.heap.size 5 1 v' (bs.length + (enc n).length) (U (bs ++ enc n)) ∧ Below w.heap.size w w' := by
  have h9 := enc_len9 hn
  have c1 : decide ((n : Int) < 0) = false := by simp
  have c2 : decide ((4611686018427387904 : Int) < (n : Int)) = false := by simp; omega
  have HN : Hid (n ≤ 4611686018427387904) := hn
  clear hn
  go_enter Try.func49, Try.ntmps49
  go_wp2_with (at_builtin; refine (wpList_append_own_src _ rfl (.tmp 13) (.tmp 14) 79 79 rfl w.heap.size 5 (.int .u8 0) 1 1 Try.underlying79 info5 rfl (by decide) _ 0 [] rfl (World.ownsRow_made w #[] 0 (Nat.le_refl _) (Nat.zero_le _) rfl) _ bs.length (U bs) rfl (by exact Row.src (P := Try.prog) Try.underlying79 (hr.below ((Below.refl w.heap.size w).alloc (Nat.le_refl _) (.cells #[] 5))) cap) (by unfold maxLen; omega) (by omega) (by simp) ?_))
  intro v0 w0 hown0 hgrow0
  have hb0 := below_own (World.ownsRow_made (e := 5) (size := 1) w #[] 0 (Nat.le_refl _) (Nat.zero_le _) rfl) hgrow0 ((Below.refl w.heap.size w).alloc (Nat.le_refl _) (.cells #[] 5)) (by simp)
  have hown0' : w0.ownsRow w.heap.size 5 1 v0 (bs.length + ([] : List UInt8).length) (U (bs ++ [])) := by simpa using hown0
  clear hgrow0 hown0 c1 c2
  go_wp2
  go_loopw [1, 6] (fun x v1 wr => ∃ (k : Nat) (pre : List UInt8), (k : Int) ≤ 4611686018427387904 ∧ x = .int .i64 k ∧ Hid (pre ++ enc k = enc n) ∧ pre.length ≤ 8 ∧ wr.ownsRow w.heap.size 5 1 v1 (bs.length + pre.length) (U (bs ++ pre)) ∧ Below w.heap.size w wr)
    (fun x _ _ => (intOf x).toNat)
  case atStart => exact ⟨n, [], by have := HN.out; omega, rfl, by simp [Hid], by simp, hown0', hb0⟩
  case round =>
    obtain ⟨k, pre, hk, rfl, hpe, hpl, hown1, hbel⟩ := hrel
    have hsz := hbel.size
    clear hown0' hb0
    by_cases hge : 128 ≤ k
    · go_wp2_with (at_builtin; refine (wpList_append_own_src _ rfl (.tmp 18) (.tmp 23) 79 79 rfl w.heap.size 5 (.int .u8 0) 1 1 Try.underlying79 info5 rfl (by decide) _ (bs.length + pre.length) (U (bs ++ pre)) rfl (hown1.alloc _) _ 1 (U [hiB k]) rfl (src_one Try.underlying79 _ _ _ ?hx) ?h63 ?hby ?hbs ?_))
      case hx => exact byte_hi k
      case h63 => unfold maxLen; omega
      case hby => omega
      case hbs => simp; omega
      intro v2 w2 hown2 hgrow2
      have hst := num_step hge hpe.out h9
      have HS : Hid (pre ++ [hiB k] ++ enc (k / 128) = enc n) := hst.1
      have hs8 := hst.2
      have hbel2 := below_own (hown1.alloc _) hgrow2 (hbel.alloc (by omega) _) (by simp; omega)
      have hown3 := own_more hown2
      clear hst hown1 hown2 hgrow2 hbel
      go_wp2
      go_roundw
      case rel => exact ⟨k / 128, _, by omega, by go_num, HS, hs8, hown3, hbel2⟩
      case measure => simp [intOf]; omega
    · go_wp2_with (at_builtin; refine (wpList_append_own_src _ rfl (.tmp 27) (.tmp 30) 79 79 rfl w.heap.size 5 (.int .u8 0) 1 1 Try.underlying79 info5 rfl (by decide) _ (bs.length + pre.length) (U (bs ++ pre)) rfl (hown1.alloc _) _ 1 (U [UInt8.ofNat k]) rfl (src_one Try.underlying79 _ _ _ ?hx2) ?h632 ?hby2 ?hbs2 ?_))
      case hx2 => exact byte_lo (by omega)
      case h632 => unfold maxLen; omega
      case hby2 => omega
      case hbs2 => simp; omega
      intro v2 w2 hown2 hgrow2
      have HS : Hid (pre ++ [UInt8.ofNat k] = enc n) := by rw [← enc_lt (by omega)]; exact hpe.out
      have hbel2 := below_own (hown1.alloc _) hgrow2 (hbel.alloc (by omega) _) (by simp; omega)
      have hown3 := own_more hown2
      clear hown1 hown2 hgrow2 hbel
      go_wp2
      go_ret2
      rw [HS.out] at hown3
      exact ⟨v2, rfl, hown3, hbel2⟩

set_option maxHeartbeats 400000 in
set_option maxRecDepth 20000 in
theorem refNum_bad (w : World) (v : Value) (n : Int) (h : n < 0 ∨ 4611686018427387904 < n) :
    Calls Try.prog 49 #[v, .int .i64 n] w fun e w' => e = .returned (.tuple #[.slice none 0 0, .int .i64 2]) ∧ w' = w := by
  by_cases h0 : n < 0
  · have c1 : decide (n < 0) = true := by simpa using h0
    clear h h0
    go_enter Try.func49, Try.ntmps49
    go_wp2
    go_ret2
    exact ⟨rfl, rfl⟩
  · have c1 : decide (n < 0) = false := by simpa using h0
    have c2 : decide (4611686018427387904 < n) = true := by simp; omega
    clear h h0
    go_enter Try.func49, Try.ntmps49
    go_wp2
    go_ret2
    exact ⟨rfl, rfl⟩
end Go.Proofs.Ytcpmcfagibmboaa.Rf

namespace Go.Proofs.Ytcpmcfagibmboaa.Cx
open Go.RowKit Pl Pw Pr Pf Pv Cp Ca Cb Cc Cd Ce Cf Gf Gk Wr Ct Cu
open Cr hiding some_of
open Kt hiding mkH
open Kv
set_option linter.unusedVariables false
set_option linter.unusedSimpArgs false
set_option maxRecDepth 20000

theorem txt_append (a b : List Int) : txt (a ++ b) = txt a ++ txt b := by simp [txt]
theorem txt_one (x : Int) : txt [x] = eI x := by simp [txt]

theorem rnum_any (w : World) (ao : Option Addr) (cap : Nat) (L : List Int) (n : Int) (hr : Row w ao (txt L)) (hlen : (txt L).length ≤ 1000000000) (hn : okN n) :
    Calls Try.prog 49 #[.slice ao (txt L).length cap, .int .i64 n] w fun e w' => ∃ a c, e = .returned (.tuple #[.slice a (txt (L ++ [n])).length c, .int .i64 0]) ∧ Hid (Row w' a (txt (L ++ [n]))) ∧ Below w.heap.size w w' := by
  obtain ⟨k, rfl⟩ := Int.eq_ofNat_of_zero_le hn.1
  have e1 : txt (L ++ [(k : Int)]) = txt L ++ enc k := by rw [txt_append, txt_one]; rfl
  refine (Rf.refNum_ok w ao cap k (txt L) hr hlen (by have := hn.2; omega)).mono ?_
  rintro e w' ⟨v, rfl, ho, hb⟩
  rw [← List.length_append, ← e1] at ho
  obtain ⟨a, c, rfl⟩ := own_form ho
  exact ⟨a, c, rfl, mkH (Row.own ho).2.2, hb⟩

set_option maxHeartbeats 1000000 in
theorem rdump_any (w : World) (e : Int) (ao : Option Addr) (cap : Nat) (l : List Pc) (h : RdP w ao cap l) (hl : l.length ≤ 30000) :
    Calls Try.prog 39 #[.agg #[.int .i64 e, .slice ao l.length cap]] w fun x w' => x = .returned (dmpV e l) ∧ Below w.heap.size w w' := by
  obtain ⟨W1, hW1⟩ : ∃ W1, W1 = w.alloc (.cells #[.int .i64 e, .slice ao l.length cap] 24) := ⟨_, rfl⟩
  have b0 : Bx W1 w.heap.size #[.int .i64 e, .slice ao l.length cap] 24 := by rw [hW1]; exact Bx.new w _ _
  have hB : Below w.heap.size w W1 := by rw [hW1]; exact (Below.refl _ w).alloc (Nat.le_refl _) _
  have hz : W1.heap.size = w.heap.size + 1 := by rw [hW1]; simp
  obtain ⟨c0, c1, -, -⟩ := two_load (P := Try.prog) b0
  have HM := mkH (Ci.rmay_any W1 e ao cap l (h.below hB) (by omega))
  have HB0 := mkH b0
  have HBW := mkH hB
  have HW := mkH hW1
  have H0 := mkH h
  clear b0 hB hW1 h
  go_enter Try.func39, Try.ntmps39
  go_wp2_with fail
  rw [show w.alloc (.cells #[.int .i64 e, .slice ao l.length cap] 24) = W1 from HW.out.symm]
  clear HW
  refine HM.out.mono ?_
  rintro x w2 ⟨rfl, hb2⟩
  have HX := mkH (HB0.out.bel hb2)
  have HB := mkH (HBW.out.trans (hb2.mono HBW.out.size))
  have hz2 : w.heap.size + 1 ≤ w2.heap.size := by have := hb2.size; omega
  clear hb2 HB0 HBW HM c0 c1 hz
  clear W1
  obtain ⟨c0, c1, -, -⟩ := two_load (P := Try.prog) HX.out
  cases hm : mayC e l with
  | false =>
    have HMM := mkH hm
    clear hm
    go_wp2
    go_ret2
    exact ⟨by rw [dmpV_not HMM.out]; rfl, HB.out⟩
  | true =>
    have HOK := mkH (nums_ok hm (by omega))
    have HMM := mkH hm
    clear hm
    have ok0 := HOK.out e (by simp [nums])
    have ok1 := HOK.out (l.length : Int) (by simp [nums])
    have HN1 := rnum_any w2 none 0 [] e (fun h => by simp [txt] at h) (by simp [txt]) ok0
    simp only [show (txt []).length = 0 from rfl, List.nil_append] at HN1
    go_wp2_with fail
    refine HN1.mono ?_
    rintro x w3 ⟨a3, k3, rfl, hr3, hb3⟩
    have hx3 := HX.out.bel hb3
    obtain ⟨d0, d1, -, -⟩ := two_load (P := Try.prog) hx3
    have hl1 : (txt [e]).length ≤ 9 * [e].length := txt_len _ (fun y hy => by simp at hy; subst hy; exact ok0)
    have HN2 := rnum_any w3 a3 k3 [e] (l.length : Int) hr3.out (by simp at hl1; omega) ok1
    have HX3 := mkH hx3
    have HB3 := mkH (HB.out.trans (hb3.mono HB.out.size))
    have hz3 := hb3.size
    clear HN1 hb3 hx3 c0 c1 HX HB hr3 hl1 ok0
    go_wp2_with fail
    refine HN2.mono ?_
    rintro x w4 ⟨a4, k4, rfl, hr4, hb4⟩
    have HX4 := mkH (HX3.out.bel hb4)
    have HB4 := mkH (HB3.out.trans (hb4.mono HB3.out.size))
    have hz4 := hb4.size
    have hw4 : w.heap.size + 1 ≤ w4.heap.size := by omega
    clear HN2 hb4 d0 d1 HX3 HB3 hz3 hz4 ok1 hz2
    clear w2 w3
    obtain ⟨c0, c1, -, -⟩ := two_load (P := Try.prog) HX4.out
    go_wp2_with fail
    clear c0 c1
    go_loopw [4, 6] (fun v ct wr => ∃ (k : Nat) (a : Option Addr) (c : Nat), k ≤ l.length ∧ ct = .int .i64 k ∧ v = .slice a (txt (nums e l.length (l.take k))).length c ∧ Hid (Row wr a (txt (nums e l.length (l.take k)))) ∧ Hid (Below (w.heap.size + 1) w4 wr))
      (fun _ ct _ => l.length - (intOf ct).toNat)
    case atStart => exact ⟨0, a4, k4, Nat.zero_le _, rfl, rfl, hr4, mkH (Below.refl _ _)⟩
    case round =>
      obtain ⟨k, a, c, hk, rfl, rfl, HRW, HBR⟩ := hrel
      have HXr := mkH (HX4.out.below HBR.out (Nat.lt_succ_self _))
      obtain ⟨c0, c1, -, -⟩ := two_load (P := Try.prog) HXr.out
      have hsz := HBR.out.size
      by_cases hlt : k < l.length
      · obtain ⟨z, hz⟩ := Cr.some_of hlt
        obtain ⟨b, o, e1, p0, p1, p2⟩ := atP H0.out.r hz
        subst e1
        have hbw : b < w.heap.size := World.block_lt_of_cell? _ _ p0
        have hji : (k : Int) < (l.length : Int) := by omega
        have hji0 : (0 : Int) ≤ (k : Int) := by omega
        have hmem : ∀ y ∈ n3 z, okN y := fun y hy => HOK.out y (by simp only [nums, List.mem_cons, List.mem_flatMap]; exact .inr (.inr ⟨z, List.mem_of_getElem? hz, hy⟩))
        have HN : Hid (nums e l.length (l.take (k + 1)) = nums e l.length (l.take k) ++ [z.1] ++ [z.2.1] ++ [z.2.2]) := mkH (by rw [List.take_add_one, hz, Option.toList_some, nums_snoc]; simp [n3])
        have HL : Hid ((txt (nums e l.length (l.take k) ++ [z.1] ++ [z.2.1] ++ [z.2.2])).length ≤ 1000000000) := mkH (by
          rw [← HN.out]
          have h1 := txt_len (nums e l.length (l.take (k + 1))) (fun y hy => HOK.out y (by
            simp only [nums, List.mem_cons, List.mem_flatMap] at hy ⊢
            rcases hy with h | h | ⟨q, hq, h⟩
            · exact .inl h
            · exact .inr (.inl h)
            · exact .inr (.inr ⟨q, List.mem_of_mem_take hq, h⟩)))
          rw [nums_len] at h1
          have : (l.take (k + 1)).length ≤ 30000 := by rw [List.length_take]; omega
          omega)
        generalize nums e l.length (l.take k) = L at HRW HN HL
        obtain ⟨L1, hL1⟩ : ∃ L1, L1 = L ++ [z.1] := ⟨_, rfl⟩
        obtain ⟨L2, hL2⟩ : ∃ L2, L2 = L1 ++ [z.2.1] := ⟨_, rfl⟩
        obtain ⟨L3, hL3⟩ : ∃ L3, L3 = L2 ++ [z.2.2] := ⟨_, rfl⟩
        rw [← hL1, ← hL2, ← hL3] at HN HL
        have hl3 := HL.out
        have HK : Hid (∀ W, Below (w.heap.size + 1) wr W → Bx W w.heap.size #[.int .i64 e, .slice (some ⟨b, o, none⟩) l.length cap] 24 ∧ W.cell? ⟨b, o + k * 3, none⟩ = some (.int .i64 z.1) ∧ W.cell? ⟨b, o + k * 3 + 1, none⟩ = some (.int .i64 z.2.1) ∧ W.cell? ⟨b, o + k * 3 + 2, none⟩ = some (.int .i64 z.2.2)) := mkH (fun W hb => by
          have hh := HB4.out.trans ((HBR.out.trans hb).mono (Nat.le_succ _))
          exact ⟨HXr.out.below hb (Nat.lt_succ_self _), (hh.cell (p := ⟨b, o + k * 3, none⟩) hbw).trans p0, (hh.cell (p := ⟨b, o + k * 3 + 1, none⟩) hbw).trans p1, (hh.cell (p := ⟨b, o + k * 3 + 2, none⟩) hbw).trans p2⟩)
        obtain ⟨-, q0, q1, q2⟩ := HK.out wr (Below.refl _ _)
        have hm0 := hmem z.1 (by simp [n3])
        have hm1 := hmem z.2.1 (by simp [n3])
        have hm2 := hmem z.2.2 (by simp [n3])
        have t3 := txt_append L2 [z.2.2]
        have t2 := txt_append L1 [z.2.1]
        have t1 := txt_append L [z.1]
        rw [← hL3] at t3
        rw [← hL2] at t2
        rw [← hL1] at t1
        have u3 := congrArg List.length t3
        have u2 := congrArg List.length t2
        have u1 := congrArg List.length t1
        simp only [List.length_append] at u1 u2 u3
        have HA := rnum_any wr a c L z.1 HRW.out (by omega) hm0
        rw [← hL1] at HA
        have hs1 : (txt L1).length ≤ 1000000000 := by omega
        have hs2 : (txt L2).length ≤ 1000000000 := by omega
        have HS1 := mkH hs1
        have HS2 := mkH hs2
        have E1 := mkH hL1
        have E2 := mkH hL2
        have E3 := mkH hL3
        clear hL1 hL2 hL3
        clear p0 p1 p2 hz hmem hm0 hl3 t1 t2 t3 u1 u2 u3 hs1 hs2 HRW HL HXr
        go_wp2_with fail
        refine HA.mono ?_
        rintro x w5 ⟨a5, k5, rfl, hr5, hb5⟩
        have g5 : Below (w.heap.size + 1) wr w5 := hb5.mono (by omega)
        obtain ⟨x5, y0, y1, y2⟩ := HK.out w5 g5
        obtain ⟨d0, d1, -, -⟩ := two_load (P := Try.prog) x5
        have HA2 := rnum_any w5 a5 k5 L1 z.2.1 hr5.out HS1.out hm1
        rw [← E2.out] at HA2
        have hz5 := g5.size
        have HG := mkH g5
        clear HA c0 c1 q0 q1 q2 x5 hb5 g5 hr5 hm1 HS1
        go_wp2_with fail
        refine HA2.mono ?_
        rintro x w6 ⟨a6, k6, rfl, hr6, hb6⟩
        have g6 : Below (w.heap.size + 1) wr w6 := HG.out.trans (hb6.mono (by omega))
        obtain ⟨x6, z0, z1, z2⟩ := HK.out w6 g6
        obtain ⟨c0, c1, -, -⟩ := two_load (P := Try.prog) x6
        have HA3 := rnum_any w6 a6 k6 L2 z.2.2 hr6.out HS2.out hm2
        rw [← E3.out] at HA3
        have hz6 := g6.size
        have HG2 := mkH g6
        clear HA2 d0 d1 y0 y1 y2 x6 hb6 g6 hr6 hm2 HS2 HG hz5
        go_wp2_with fail
        refine HA3.mono ?_
        rintro x w7 ⟨a7, k7, rfl, hr7, hb7⟩
        have g7 : Below (w.heap.size + 1) wr w7 := HG2.out.trans (hb7.mono (by omega))
        have HBF := mkH (HBR.out.trans g7)
        have HRF : Hid (Row w7 a7 (txt (nums e l.length (l.take (k + 1))))) := mkH (by rw [HN.out]; exact hr7.out)
        have HV : Hid (Value.slice a7 (txt L3).length k7 = Value.slice a7 (txt (nums e l.length (l.take (k + 1)))).length k7) := mkH (by rw [HN.out])
        clear HA3 c0 c1 z0 z1 z2 hb7 g7 hr7 HG2 hz6 HK HBR
        go_wp2
        go_roundw
        case rel => exact ⟨k + 1, a7, k7, by omega, by go_num, HV.out, HRF, HBF⟩
        case measure => simp [intOf]; omega
      · obtain rfl : k = l.length := by omega
        rw [List.take_length] at HRW ⊢
        have hs := run_string (P := Try.prog) Try.underlying79 Try.underlying5 Try.underlying9 HRW.out c
        have HF := mkH (HB4.out.trans (HBR.out.mono (Nat.le_succ _)))
        clear HRW HBR HX4 HXr
        go_wp2
        go_ret2
        exact ⟨by rw [dmpV_may HMM.out]; rfl, HF.out⟩
end Go.Proofs.Ytcpmcfagibmboaa.Cx
