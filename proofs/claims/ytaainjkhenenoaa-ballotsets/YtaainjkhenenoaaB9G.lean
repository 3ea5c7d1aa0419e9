/-
  bytes.Clone; the votes that count, put into a map: the first part of Merge.
-/
import Derived.Test.YtaainjkhenenoaaB9R
import Derived.Test.YtaainjkhenenoaaB9S
namespace Go.Proofs.Ytaainjkhenenoaa.Bg
open Go.RowKit Kt Dk Bp Bm Br Bs Go.Maps
set_option linter.unusedVariables false
set_option maxRecDepth 20000

theorem eql_nil {P : Program} (w : World) (t e : TypeId) (a : Option Addr) (l c : Nat) (h : P.underlying t = some (.slice e)) : (binOp .eql t (.slice a l c) (.slice none 0 0)).run P w = .ok (.bool a.isNone) w := by
  have h1 : ∀ d, (Op.equalIn (d + 1) t (.slice a l c) (.slice none 0 0)).run P w = .ok a.isNone w := fun d => by cases a <;> simp [Op.equalIn, run_underlying h]
  have h2 : (Op.equal t (.slice a l c) (.slice none 0 0)).run P w = .ok a.isNone w := h1 9999
  simp only [binOp]
  simp [h2]

set_option maxHeartbeats 400000 in
set_option maxRecDepth 20000 in
theorem clone_any (w : World) (ao : Option Addr) (cap : Nat) (bs : List UInt8) (hr : Row w ao bs) (hl : bs.length ≤ 1000000000) :
    Calls Try.prog 35 #[.slice ao bs.length cap] w fun e w' => ∃ a' c', e = .returned (.slice a' bs.length c') ∧ w'.ownsRow w.heap.size 5 1 (.slice a' bs.length c') bs.length (U bs) ∧ Below w.heap.size w w' := by
  cases ao with
  | none =>
    have h0 : bs = [] := by
      rcases Nat.eq_zero_or_pos bs.length with h | h
      · exact List.eq_nil_of_length_eq_zero h
      · obtain ⟨b, off, e, _⟩ := hr h; cases e
    subst h0
    have hq := eql_nil (P := Try.prog) w 36 5 none 0 cap Try.underlying36
    simp only [Option.isNone] at hq
    go_enter Try.func35, Try.ntmps35
    go_wp2
    go_ret
    exact ⟨none, 0, rfl, by simpa [U] using World.ownsRow_nil w _ _ _, Below.refl _ _⟩
  | some a =>
    have hq := eql_nil (P := Try.prog) w 36 5 (some a) bs.length cap Try.underlying36
    simp only [Option.isNone] at hq
    go_enter Try.func35, Try.ntmps35
    go_wp2_with (at_builtin; refine (wpList_append_own_src _ rfl (.tmp 5) (.tmp 6) 36 36 rfl w.heap.size 5 (.int .u8 0) 1 1 Try.underlying36 info8 rfl (by decide) _ 0 [] rfl (World.ownsRow_made w #[] 0 (Nat.le_refl _) (Nat.zero_le _) rfl) _ bs.length (U bs) rfl ?hsrc2 ?h632 ?hby2 ?hbs2 ?_))
    case hsrc2 => exact Row.src (P := Try.prog) Try.underlying36 (hr.below ((Below.refl w.heap.size w).alloc (Nat.le_refl _) (.cells #[] 5))) cap
    case h632 => unfold maxLen; omega
    case hby2 => omega
    case hbs2 => simp
    intro v2 w2 hown2 hgrow2
    have hbel := below_own (World.ownsRow_made (e := 5) (size := 1) w #[] 0 (Nat.le_refl _) (Nat.zero_le _) rfl) hgrow2 ((Below.refl w.heap.size w).alloc (Nat.le_refl _) (.cells #[] 5)) (by simp)
    have hown3 : w2.ownsRow w.heap.size 5 1 v2 bs.length (U bs) := by simpa using hown2
    clear hown2 hgrow2 hr
    go_wp2
    go_ret
    obtain ⟨a', c', rfl⟩ := own_form hown3
    exact ⟨a', c', rfl, hown3, hbel⟩

theorem below_fr {w w1 w2 : World} {b : Nat} (h : Below b w w1) (hf : Fr (fun k => k = b) w1 w2) (hb : b ≤ w1.heap.size) : Below b w w2 :=
  h.trans (hf.below (fun k hk => by omega) hb)

set_option maxHeartbeats 4000000 in
theorem merge_any (w : World) (ao : Option Addr) (cap : Nat) (ls : List L) (h : RL w ao ls) (hn : (flat ls).length ≤ 1000) (hls : ls.length ≤ 1000) (hlc : ls.length ≤ cap) (hcap : cap ≤ 9223372036854775807) (hv : ∀ x ∈ flat ls, x.v.length ≤ 1000000) :
    Calls Try.prog 21 #[.slice ao ls.length cap] w fun e w' => ∃ ra rc ys, e = .returned (.slice ra ys.length rc) ∧ ys.map p3 = (mrg (flat ls)).map p3 ∧ w'.ownsRow w.heap.size 38 3 (.slice ra ys.length rc) ys.length (Fx ys) ∧ (∀ y ∈ ys, OwnV w.heap.size w' y) ∧ Below w.heap.size w w' := by
  have HR := mkH h
  have HV := mkH hv
  have HM0 := mkH (Mw.made w)
  have HB0 : Hid (Below w.heap.size w (w.alloc (.map #[] 0))) := (Below.refl _ w).alloc (Nat.le_refl _) _
  obtain ⟨Mb, hMb⟩ : ∃ Mb, w.heap.size = Mb := ⟨_, rfl⟩
  have HMb := mkH hMb
  clear h hv hMb
  have hmm := @run_makeMap Try.prog
  go_enter Try.func21, Try.ntmps21
  go_wp2_with fail
  go_loopw [17] (fun i wr => ∃ j : Nat, j ≤ ls.length ∧ i = .int .i64 (j : Int) ∧ Hid (Mw wr w.heap.size (mrg (flat (ls.take j)))) ∧ Hid (Below w.heap.size w wr)) (fun i _ => ls.length - (intOf i).toNat)
  case atStart => exact ⟨0, Nat.zero_le _, rfl, HM0, HB0⟩
  case round =>
    clear HM0 HB0 hmm
    obtain ⟨j, hj, rfl, HM, HB⟩ := hrel
    rcases Nat.lt_or_ge j ls.length with hjl | hjl
    · obtain ⟨x, hx⟩ := some_of hjl
      obtain ⟨xa, xl, xc⟩ := x
      obtain ⟨b, off, rfl, hrx, hcx⟩ := RL.at (HR.out.below HB.out) hx
      simp only at hcx
      have hxl : xl.length ≤ 1000 := by have := flat_len hx; simp only at this; omega
      have HX := mkH hx
      clear hx hrx
      go_wp2_with fail
      generalize wr = wO at *
      go_loopw [23] (fun i wr => ∃ k : Nat, k ≤ xl.length ∧ i = .int .i64 (k : Int) ∧ Hid (Mw wr w.heap.size (mrg (flat (ls.take j) ++ xl.take k))) ∧ Hid (Below w.heap.size w wr)) (fun i _ => xl.length - (intOf i).toNat)
      case atStart => exact ⟨0, Nat.zero_le _, rfl, by simpa using HM, HB⟩
      case round =>
        clear HM hcx
        obtain ⟨k, hk, rfl, HM, HB2⟩ := hrel
        rcases Nat.lt_or_ge k xl.length with hkl | hkl
        · obtain ⟨y, hy⟩ := some_of hkl
          obtain ⟨b0, off0, he0, hrx, -⟩ := RL.at (HR.out.below HB2.out) HX.out
          clear he0
          obtain ⟨b2, off2, hxa, hok, c0, c1, c2⟩ := RX.at hrx hy
          simp only at hxa
          subst hxa
          obtain ⟨l, hl⟩ : ∃ l, mrg (flat (ls.take j) ++ xl.take k) = l := ⟨_, rfl⟩
          have hstep : mrg (flat (ls.take j) ++ xl.take (k + 1)) = add l y := by rw [take_snoc hy, ← List.append_assoc, mrg_snoc, hl]
          have hsrt : Srt l := by rw [← hl]; exact mrg_srt _
          have hll : l.length ≤ 1000 := by
            have h1 := mrg_len (flat (ls.take j) ++ xl.take k)
            have h2 := flat_len HX.out
            simp only at h2
            rw [hl, List.length_append, List.length_take] at h1
            omega
          have HM2 := HM
          unfold Hid at HM2
          rw [hl] at HM2
          obtain ⟨ys, yb, yv, ya, yc⟩ := y
          simp only at c0 c1 c2
          have hb1 : Below wr.heap.size wr (wr.alloc (.cells #[.int .i64 ys, .int .i64 yb, .slice ya yv.length yc] 38)) := (Below.refl _ wr).alloc (Nat.le_refl _) _
          obtain ⟨o, hlk, hou⟩ := look2 (HM2.below hb1) (k := ys) hok.2.1
          obtain ⟨os, ob, ov, oa, oc⟩ := o
          simp only at hlk
          have hb2 : Below wr.heap.size wr ((wr.alloc (.cells #[.int .i64 ys, .int .i64 yb, .slice ya yv.length yc] 38)).alloc (.cells #[.int .i64 os, .int .i64 ob, .slice oa ov.length oc] 38)) := hb1.alloc (by simp) _
          obtain ⟨w3, hupd, hM3, hF3⟩ := store1 (HM2.below hb2) hsrt (by omega) ⟨ys, yb, yv, ya, yc⟩ hok.2.1
          simp only at hupd
          have hsw : w.heap.size ≤ wr.heap.size := HB2.out.size
          have hsz2 : ((wr.alloc (.cells #[.int .i64 ys, .int .i64 yb, .slice ya yv.length yc] 38)).alloc (.cells #[.int .i64 os, .int .i64 ob, .slice oa ov.length oc] 38)).heap.size = wr.heap.size + 2 := by simp
          have hbw2 : Below w.heap.size w ((wr.alloc (.cells #[.int .i64 ys, .int .i64 yb, .slice ya yv.length yc] 38)).alloc (.cells #[.int .i64 os, .int .i64 ob, .slice oa ov.length oc] 38)) := HB2.out.trans (hb2.mono hsw)
          have HBA := mkH hbw2
          have HBU : Hid (Below w.heap.size w w3) := below_fr hbw2 hF3 (by omega)
          have HMA := mkH (HM2.below hb2)
          have HMU := mkH hM3
          have HST := mkH hstep
          have HSR := mkH hsrt
          cases hat : atX l ys with
          | none =>
            rw [hat] at hlk
            simp only [Option.isSome] at hlk
            have HE := mkH (add_none (x := ⟨ys, yb, yv, ya, yc⟩) hat)
            clear hb1 hb2 hbw2 hM3 hF3 hou hok hrx HM2 hstep hsrt hat hl hy HMA HBA
            go_wp2
            go_roundw
            case rel => exact ⟨k + 1, by omega, by go_num, by unfold Hid; rw [HST.out, HE.out]; exact HMU, HBU⟩
            case measure => simp [intOf]; omega
          | some u =>
            have hu := hou u hat
            subst hu
            rw [hat] at hlk
            simp only [Option.isSome] at hlk
            by_cases hgt : ob < yb
            · have HE := mkH (add_gt (x := ⟨ys, yb, yv, ya, yc⟩) hat hgt)
              clear hb1 hb2 hbw2 hM3 hF3 hou hok hrx HM2 hstep hsrt hat hl hy HMA HBA
              go_wp2
              go_roundw
              case rel => exact ⟨k + 1, by omega, by go_num, by unfold Hid; rw [HST.out, HE.out]; exact HMU, HBU⟩
              case measure => simp [intOf]; omega
            · have HE := mkH (add_le hsrt (x := ⟨ys, yb, yv, ya, yc⟩) hat hgt)
              clear hb1 hb2 hbw2 hM3 hF3 hou hok hrx HM2 hstep hsrt hat hl hy HMU HBU
              go_wp2
              go_roundw
              case rel => exact ⟨k + 1, by omega, by go_num, by unfold Hid; rw [HST.out, HE.out]; exact HMA, HBA⟩
              case measure => simp [intOf]; omega
        · have hke : k = xl.length := by omega
          subst hke
          rw [List.take_length] at HM
          have HF := mkH (flat_snoc HX.out)
          simp only at HF
          go_wp2
          go_roundw
          case rel => exact ⟨j + 1, by omega, by go_num, by unfold Hid; rw [HF.out]; exact HM, HB2⟩
          case measure => simp [intOf]; omega
    · have hje : j = ls.length := by omega
      subst hje
      rw [List.take_length] at HM
      obtain ⟨l, hl⟩ : ∃ l, mrg (flat ls) = l := ⟨_, rfl⟩
      have HL := mkH hl
      rw [hl] at HM
      have hsrt : Srt l := by rw [← hl]; exact mrg_srt _
      have hll : l.length ≤ 1000 := by have := mrg_len (flat ls); rw [hl] at this; omega
      have hmem : ∀ y ∈ l, XOk w y ∧ y.v.length ≤ 1000000 := fun y hy => by
        rw [← hl] at hy
        have h1 := mrg_mem hy
        obtain ⟨q, hq, hyq⟩ := List.mem_flatMap.1 h1
        exact ⟨(HR.out.2 q hq).2 y hyq, HV.out y h1⟩
      have HS := mkH hsrt
      have HME := mkH hmem
      generalize wr = w1 at *
      have hsw1 : w.heap.size ≤ w1.heap.size := HB.out.size
      clear hl hsrt hmem
      go_wp2_with fail
      refine (keys_any (some w.heap.size) w1).mono ?_
      rintro e w2 ⟨rfl, hw2⟩
      subst hw2
      go_wp2_with fail
      refine (sorted_any HM.out HS.out (by omega)).mono ?_
      rintro e w3 ⟨ka, kc, rfl, hk3, hb3⟩
      have hB13 : Below w1.heap.size w1 w3 := ((Below.refl _ w1).alloc (Nat.le_refl _) _).trans (hb3.mono (by omega))
      have HB3 : Hid (Below w.heap.size w w3) := HB.out.trans (hB13.mono hsw1)
      have HM3 : Hid (Mw w3 w.heap.size l) := HM.out.below hB13
      have HK3 := mkH hk3
      have hsw3 : w.heap.size ≤ w3.heap.size := HB3.out.size
      clear hk3 hb3 hB13
      go_wp2_with fail
      go_loopw [10, 53] (fun mv i wr => ∃ (j : Nat) (ra : Option Addr) (rc : Nat) (ys : List X), j ≤ l.length ∧ i = .int .i64 (j : Int) ∧ mv = .slice ra j rc ∧ Hid (ys.length = j) ∧ Hid (ys.map p3 = (l.take j).map p3) ∧ Hid (wr.ownsRow w3.heap.size 38 3 (.slice ra j rc) j (Fx ys)) ∧ Hid (∀ y ∈ ys, OwnV w3.heap.size wr y) ∧ Hid (Below w3.heap.size w3 wr))
        (fun _ i _ => l.length - (intOf i).toNat)
      case atStart => exact ⟨0, none, 0, [], Nat.zero_le _, rfl, rfl, rfl, rfl, World.ownsRow_nil w3 _ _ _, mkH (fun y hy => absurd hy (by simp)), mkH (Below.refl _ _)⟩
      case round =>
        obtain ⟨j, ra, rc, ys, hj, rfl, rfl, HYL, HYP, HO, HOV, HBW⟩ := hrel
        rcases Nat.lt_or_ge j l.length with hjl | hjl
        · obtain ⟨u, hu⟩ := some_of hjl
          have hum : u ∈ l := List.mem_of_getElem? hu
          obtain ⟨kb, rfl⟩ : ∃ kb, ka = some ⟨kb, 0, none⟩ := by
            rcases HK3.out.2 with ⟨e, h0⟩ | ⟨g, cap, cur, e, -⟩
            · omega
            · simp only [Value.slice.injEq] at e
              exact ⟨g, e.1⟩
          have hck : wr.cell? ⟨kb, j, none⟩ = some (.int .i64 u.s) := by
            have := World.ownsRow.cellAt (own_below HK3.out HBW.out) j (by omega)
            rw [this]
            simp [iK, hu]
          have hsw : w3.heap.size ≤ wr.heap.size := HBW.out.size
          have hxo := HME.out u hum
          have hlk := look1 (HM3.out.below HBW.out) hxo.1.2.1 (mem_at HS.out hum)
          have hru : Row wr u.a u.v := hxo.1.1.below (HB3.out.trans (HBW.out.mono hsw3))
          have HT := mkH (take_snoc hu)
          obtain ⟨us, ub, uv, ua, uc⟩ := u
          simp only at hck hlk hru hxo
          have huv : uv.length ≤ 1000000 := hxo.2
          have HVB : Hid ((wr.alloc (.cells #[.int .i64 us, .int .i64 ub, .slice ua uv.length uc] 38)).heap[wr.heap.size]? = some (.cells #[.int .i64 us, .int .i64 ub, .slice ua uv.length uc] 38 (0, 0))) := heap_alloc_new wr _
          have hbv : Below wr.heap.size wr (wr.alloc (.cells #[.int .i64 us, .int .i64 ub, .slice ua uv.length uc] 38)) := (Below.refl _ wr).alloc (Nat.le_refl _) _
          have hsv : (wr.alloc (.cells #[.int .i64 us, .int .i64 ub, .slice ua uv.length uc] 38)).heap.size = wr.heap.size + 1 := by simp
          have HBV := mkH hbv
          have HRV := mkH (hru.below hbv)
          clear hbv hru hxo hum hu
          go_wp2_with fail
          generalize wr.alloc (.cells #[.int .i64 us, .int .i64 ub, .slice ua uv.length uc] 38) = wv at *
          refine (clone_any wv ua uc uv HRV.out (by omega)).mono ?_
          rintro e w5 ⟨a5, c5, rfl, ho5, hb5⟩
          have h5b : w5.heap[wr.heap.size]? = some (.cells #[.int .i64 us, .int .i64 ub, .slice ua uv.length uc] 38 (0, 0)) := (hb5.block _ (by omega)).trans HVB.out
          have d0 : w5.cell? ⟨wr.heap.size, 0, none⟩ = some (.int .i64 us) := by rw [cell_of_row _ _ _ _ _ _ h5b]; rfl
          have d1 : w5.cell? ⟨wr.heap.size, 1, none⟩ = some (.int .i64 ub) := by rw [cell_of_row _ _ _ _ _ _ h5b]; rfl
          have d2 : w5.cell? ⟨wr.heap.size, 2, none⟩ = some (.slice ua uv.length uc) := by rw [cell_of_row _ _ _ _ _ _ h5b]; rfl
          have df : w5.frozen? ⟨wr.heap.size, 2, none⟩ = false := by simp only [World.frozen?, h5b]; rfl
          have hb15 : Below wr.heap.size wr w5 := HBV.out.trans (hb5.mono (by omega))
          have h6 : Below wr.heap.size wr (w5.setCell ⟨wr.heap.size, 2, none⟩ (.slice a5 uv.length c5)) := hb15.setCell (Nat.le_refl _) _
          have HO6 := mkH (own_below HO.out h6)
          have hov5 : OwnV w3.heap.size w5 ⟨us, ub, uv, a5, c5⟩ := own_mono ho5 (by omega)
          have HOV6 : Hid (∀ y ∈ ys ++ [⟨us, ub, uv, a5, c5⟩], OwnV w3.heap.size (w5.setCell ⟨wr.heap.size, 2, none⟩ (.slice a5 uv.length c5)) y) := fun y hy => by
            rcases List.mem_append.1 hy with hy | hy
            · exact own_below (HOV.out y hy) h6
            · obtain rfl := List.mem_singleton.1 hy
              refine ownsRow_setCell_other (own_mono ho5 (by omega)) (fun e => ?_) _
              have := (ho5.lt _ e).1
              simp only at this
              omega
          have HB6 : Hid (Below w3.heap.size w3 (w5.setCell ⟨wr.heap.size, 2, none⟩ (.slice a5 uv.length c5))) := HBW.out.trans (h6.mono hsw)
          have hs6 : (w5.setCell ⟨wr.heap.size, 2, none⟩ (.slice a5 uv.length c5)).heap.size = w5.heap.size := by simp
          have hs5 : wr.heap.size ≤ w5.heap.size := hb15.size
          have hsrc := src_new (P := Try.prog) vC_len vC_one (by decide) Try.underlying30 (w5.setCell ⟨wr.heap.size, 2, none⟩ (.slice a5 uv.length c5)) ⟨us, ub, uv, a5, c5⟩ 38
          rw [hs6] at hsrc
          have HSRC := mkH hsrc
          clear ho5 hb5 h5b hb15 h6 hov5 hsrc HVB HBV HRV hlk hck
          go_wp2_with (at_builtin; refine wpList_append_own_src _ rfl (.tmp 64) (.tmp 66) 30 30 rfl w3.heap.size 38 (.agg #[.int .i64 0, .int .i64 0, .slice none 0 0]) 3 40 Try.underlying30 infoV rfl (by decide) _ j (Fx ys) rfl (HO6.out.alloc _) _ 1 (Fx [⟨us, ub, uv, a5, c5⟩]) rfl HSRC.out (by unfold maxLen; omega) (by omega) (by simp; omega) ?_; intro v7 w7 ho7 hg7)
          have hoa := HO6.out.alloc (.cells (vC ⟨us, ub, uv, a5, c5⟩).toArray 38)
          have HB7 : Hid (Below w3.heap.size w3 w7) := below_own hoa hg7 (HB6.out.alloc (by simp; omega) _) (by simp; omega)
          have HOV7 : Hid (∀ y ∈ ys ++ [⟨us, ub, uv, a5, c5⟩], OwnV w3.heap.size w7 y) := fun y hy => by
            have h1 := own_below (HOV6.out y hy) ((Below.refl _ _).alloc (Nat.le_refl _) (.cells (vC ⟨us, ub, uv, a5, c5⟩).toArray 38))
            exact own_fr h1 (fr_by hg7) (fun k hk hx => own_kinds h1 hoa (by decide) k hk hx)
          obtain ⟨a7, c7, rfl⟩ := own_form ho7
          have HO7 : Hid (w7.ownsRow w3.heap.size 38 3 (.slice a7 (j + 1) c7) (j + 1) (Fx (ys ++ [⟨us, ub, uv, a5, c5⟩]))) := by
            show World.ownsRow _ _ _ _ _ _ _
            unfold Fx
            rw [Fl_append]
            exact ho7
          have HYP7 : Hid ((ys ++ [(⟨us, ub, uv, a5, c5⟩ : X)]).map p3 = (l.take (j + 1)).map p3) := by
            show _ = _
            rw [HT.out, List.map_append, List.map_append, HYP.out]
            rfl
          have HYL7 : Hid ((ys ++ [(⟨us, ub, uv, a5, c5⟩ : X)]).length = j + 1) := by
            show _ = _
            rw [List.length_append, HYL.out]; rfl
          clear ho7 hg7 hoa HO6 HOV6 HB6 HSRC d0 d1 d2 df
          go_wp2
          go_roundw
          case rel => exact ⟨j + 1, a7, c7, _, by omega, by go_num, rfl, HYL7, HYP7, HO7, HOV7, HB7⟩
          case measure => simp [intOf]; omega
        · have hje : j = l.length := by omega
          subst hje
          rw [List.take_length] at HYP
          have HYL' := HYL
          unfold Hid at HYL'
          go_wp2
          go_ret
          rw [← HYL'] at HO ⊢
          refine ⟨ra, rc, ys, rfl, by rw [HL.out]; exact HYP.out, own_mono HO.out hsw3, fun y hy => own_mono (HOV.out y hy) hsw3, HB3.out.trans (HBW.out.mono hsw3)⟩
end Go.Proofs.Ytaainjkhenenoaa.Bg
