/-
  A list of calls that came in; 'plays' of the laws of layer 7.
-/
import Derived.Test.YtjfbhchpgmimfaaDoorSgW
namespace Go.Proofs.YtjfbhchpgmimfaaDoor.Sx
open Go.RowKit Kt Cs Cf Cv Ck Ca Dk Dp Da Db Dc Dd De Sq Sr Sa Sb Sc Se Sf Sk Sm St Su Sv Pl
set_option linter.unusedVariables false
set_option maxRecDepth 20000

/-- A call, as it came in. -/
structure Ac where
  kind : Int
  n : Int
  flip : Int
  ao : Option Addr
  cap : Nat
  b : List UInt8
def aC (x : Ac) : List Value := [.int .i64 x.kind, .int .i64 x.n, .int .i64 x.flip, .slice x.ao x.b.length x.cap]
theorem aC_len (x : Ac) : (aC x).length = 4 := rfl
def AcOk (w : World) (x : Ac) : Prop := Row w x.ao x.b ∧ x.b.length ≤ x.cap ∧ x.cap ≤ 9223372036854775807 ∧ x.flip ≤ 9223372036854775807
/-- A slice of calls, as it is read. -/
def RowA (w : World) (ao : Option Addr) (l : List Ac) : Prop :=
  (∀ x ∈ l, AcOk w x) ∧ (0 < l.length → ∃ b off, ao = some ⟨b, off, none⟩ ∧ ∀ i x, l[i]? = some x → ∀ j v, (aC x)[j]? = some v → w.cell? ⟨b, off + i * 4 + j, none⟩ = some v)
theorem AcOk.below {w w' : World} {x : Ac} (h : AcOk w x) (hb : Below w.heap.size w w') : AcOk w' x := ⟨h.1.below hb, h.2⟩
theorem RowA.below {w w' : World} {ao : Option Addr} {l : List Ac} (h : RowA w ao l) (hb : Below w.heap.size w w') : RowA w' ao l := by
  refine ⟨fun x hx => (h.1 x hx).below hb, fun hl => ?_⟩
  obtain ⟨b, off, e, hc⟩ := h.2 hl
  refine ⟨b, off, e, fun i x hx j v hv => ?_⟩
  have h1 := hc i x hx j v hv
  rw [hb.cell (p := ⟨b, off + i * 4 + j, none⟩) (World.block_lt_of_cell? w _ h1)]
  exact h1
theorem Row_take {w : World} {ao : Option Addr} {bs : List UInt8} (h : Row w ao bs) (k : Nat) : Row w ao (bs.take k) := by
  intro hl
  rw [List.length_take] at hl
  obtain ⟨b, off, e, hc⟩ := h (by omega)
  refine ⟨b, off, e, fun i hi => ?_⟩
  rw [List.length_take] at hi
  rw [hc i (by omega)]
  simp [show i < k by omega]
/-- 'x.b[:min(len(x.b), n)]'. -/
theorem min_len (bs : List UInt8) (n : Nat) : ∃ m : Nat, (bs.take n).length = m ∧ (if (n : Int) < (bs.length : Int) then (n : Int) else (bs.length : Int)) = (m : Int) ∧ m ≤ n ∧ m ≤ bs.length := by
  by_cases h : n < bs.length
  · exact ⟨n, by rw [List.length_take]; omega, by rw [if_pos (by omega)], by omega, by omega⟩
  · exact ⟨bs.length, by rw [List.length_take]; omega, by rw [if_neg (by omega)], by omega, by omega⟩

/-- The call at a place of such a slice. -/
theorem RowA.at {w : World} {ao : Option Addr} {l : List Ac} (h : RowA w ao l) (i : Nat) (hi : i < l.length) : ∃ b off x, ao = some ⟨b, off, none⟩ ∧ AcOk w x ∧
    w.cell? ⟨b, off + i * 4, none⟩ = some (.int .i64 x.kind) ∧ w.cell? ⟨b, off + i * 4 + 1, none⟩ = some (.int .i64 x.n) ∧ w.cell? ⟨b, off + i * 4 + 2, none⟩ = some (.int .i64 x.flip) ∧ w.cell? ⟨b, off + i * 4 + 3, none⟩ = some (.slice x.ao x.b.length x.cap) := by
  obtain ⟨b, off, e, hc⟩ := h.2 (by omega)
  have hx : l[i]? = some l[i] := List.getElem?_eq_getElem hi
  exact ⟨b, off, l[i], e, h.1 _ (List.getElem_mem hi), hc i _ hx 0 _ rfl, hc i _ hx 1 _ rfl, hc i _ hx 2 _ rfl, hc i _ hx 3 _ rfl⟩


theorem below_alloc (w : World) (o : Obj) : Below w.heap.size w (w.alloc o) := (Below.refl _ w).alloc (Nat.le_refl _) o
/-- 'per' of the laws: a number of 1 to m. -/
theorem per_is (x m : Int) (hm : 0 < m) (h9 : m ≤ 1000) : ∃ p : Nat, 1 ≤ p ∧ p ≤ m ∧ wrap64 (1 + (wrap64 (x.tmod m + m)).tmod m) = (p : Int) := by
  have h1 := Int.tmod_lt_of_pos x hm
  have h2 : -m < x.tmod m := by
    have := Int.lt_tmod_of_pos x hm
    omega
  have h3 := Int.tmod_lt_of_pos (x.tmod m + m) hm
  have h4 := Int.tmod_nonneg m (show 0 ≤ x.tmod m + m by omega)
  have e1 : wrap64 (x.tmod m + m) = x.tmod m + m := by unfold wrap64; omega
  rw [e1]
  have e2 : wrap64 (1 + (x.tmod m + m).tmod m) = 1 + (x.tmod m + m).tmod m := by unfold wrap64; omega
  rw [e2]
  exact ⟨(1 + (x.tmod m + m).tmod m).toNat, by omega, by omega, by omega⟩
theorem rst_up (h : H) : (rst h).dn = none := by unfold rst; split <;> simp_all

set_option maxHeartbeats 4000000 in
theorem plays_any (w : World) (hT : Tb w) (per : Int) (ao : Option Addr) (cap : Nat) (l : List Ac) (hr : RowA w ao l) (hl : l.length ≤ cap) (hc : cap ≤ 9223372036854775807) :
    Calls Tryd.prog 32 #[.int .i64 per, .slice ao l.length cap] w fun e w' => ∃ B h, e = .returned (.pointer (some ⟨B, 0, none⟩)) ∧ h.dn = none ∧ Inv 50 h ∧ Ln w (fun k => k < w.heap.size) w' B h := by
  obtain ⟨p, hp1, hp9, hp⟩ := per_is per 9 (by omega) (by omega)
  have hn := new_ln w hT p hp1 (by omega)
  obtain ⟨B, hB⟩ : ∃ B, w.heap.size = B := ⟨_, rfl⟩
  rw [hB] at hn
  have HN := mkH hn
  have HT := mkH hT
  have HR := mkH hr
  clear hn hT hr
  go_enter Tryd.func32, Tryd.ntmps32
  go_wp2_with fail
  rw [hp]
  refine HN.out.mono ?_
  rintro e w1 ⟨rfl, h1⟩
  have H1 := mkH h1
  have hi0 : Inv 0 ⟨p, [], 0, none⟩ := inv_new hp1 (by omega)
  have HI0 := mkH hi0
  clear h1 HN hi0 hp hp1 hp9
  go_wp2_with fail
  go_loopw [7] (fun i W => ∃ j : Nat, j ≤ l.length ∧ j ≤ 50 ∧ i = .int .i64 j ∧ ∃ h, Hid (Ln w (fun k => k < B) W B h ∧ Inv j h)) (fun i _ => 50 - (intOf i).toNat)
  case atStart => exact ⟨0, by omega, by omega, rfl, _, ⟨H1.out, HI0.out⟩⟩
  case round =>
    clear H1 HI0
    obtain ⟨j, hj, hj60, rfl, h, HD⟩ := hrel
    have hfin : Hid (∀ W h', Ln w (fun k => k < B) W B h' ∧ Inv j h' → Inv 50 h' ∧ Ln w (fun k => k < w.heap.size) W B h') := fun W h' x => ⟨Inv.more x.2 hj60, by rw [hB]; exact x.1⟩
    by_cases hj1 : j = l.length ∨ j = 50
    · have hj0 : (j = l.length ∧ decide ((j : Int) < (l.length : Int)) = false) ∨ (j = 50 ∧ j < l.length) := by
        rcases hj1 with h | h
        · exact .inl ⟨h, by simp; omega⟩
        · by_cases h2 : j = l.length
          · exact .inl ⟨h2, by simp; omega⟩
          · exact .inr ⟨h, by omega⟩
      clear hj1
      rcases hj0 with ⟨h1, h2⟩ | ⟨h1, h2⟩
      · clear h2
        subst h1
        go_wp2_with fail
        refine (down_ln HD.out.1 HD.out.2.p1).mono ?_
        rintro e w2 ⟨rfl, hw⟩
        have hw2 := hw.symm
        subst hw2
        clear hw
        cases hd : h.dn.isSome
        · go_wp2
          go_ret
          exact ⟨B, h, rfl, by simpa using hd, hfin.out _ _ HD.out⟩
        · go_wp2_with fail
          refine (restart_ln HD.out.1 HD.out.2 (by omega)).mono ?_
          rintro e w2 ⟨rfl, h2⟩
          have H2 := mkH (And.intro h2 (inv_rs HD.out.2))
          clear h2 hd
          go_wp2
          go_ret
          exact ⟨B, _, rfl, rst_up h, hfin.out _ _ H2.out⟩
      · subst h1
        go_wp2_with fail
        refine (down_ln HD.out.1 HD.out.2.p1).mono ?_
        rintro e w2 ⟨rfl, hw⟩
        have hw2 := hw.symm
        subst hw2
        clear hw
        cases hd : h.dn.isSome
        · go_wp2
          go_ret
          exact ⟨B, h, rfl, by simpa using hd, hfin.out _ _ HD.out⟩
        · go_wp2_with fail
          refine (restart_ln HD.out.1 HD.out.2 (by omega)).mono ?_
          rintro e w2 ⟨rfl, h2⟩
          have H2 := mkH (And.intro h2 (inv_rs HD.out.2))
          clear h2 hd
          go_wp2
          go_ret
          exact ⟨B, _, rfl, rst_up h, hfin.out _ _ H2.out⟩
    · have hjl : j < l.length := by omega
      have hj6 : j < 50 := by omega
      have hb := HD.out.1.toBelow (fun k hk => hk)
      rw [← hB] at hb
      obtain ⟨b, off, ⟨kd, n, fl, xa, xc, xb⟩, rfl, ⟨hrow, hxl, hxc, hxf⟩, c0, c1, c2, c3⟩ := (HR.out.below hb).at j hjl
      simp only at hrow hxl hxc hxf c0 c1 c2 c3
      obtain ⟨m, hm1, hm2, hm3, hm4⟩ := min_len xb 300
      have HX := mkH (Row_take hrow 300)
      have HM := mkH hm1
      have ha : ∀ o : Obj, Hid (Ln w (fun k => k < B) (wr.alloc o) B h) := fun o => HD.out.1.below (below_alloc wr o)
      have hxx : ∀ o : Obj, Hid (Row (wr.alloc o) xa (xb.take 300)) := fun o => HX.out.below (below_alloc wr o)
      have HA := mkH ha
      have HXX := mkH hxx
      have HI := mkH HD.out.2
      have hm2 : (if (300 : Int) < (xb.length : Int) then (300 : Int) else (xb.length : Int)) = (m : Int) := hm2
      have hend : ∀ W h', Ln w (fun k => k < B) W B h' → Inv (j + 1) h' → ∃ i : Nat, i ≤ l.length ∧ i ≤ 50 ∧ Value.int .i64 ((j : Int) + 1) = .int .i64 (i : Int) ∧ ∃ h, Hid (Ln w (fun k => k < B) W B h ∧ Inv i h) := fun W h' hW hi => ⟨j + 1, by omega, by omega, by go_num, h', ⟨hW, hi⟩⟩
      have HEND := mkH hend
      clear hj1 hb hrow hm1 ha hxx hend hfin HD
      by_cases h0 : kd = 0
      · subst h0
        go_wp2_with fail
        have ht := append_ln (HA.out _).out HI.out (by omega) xa xc (xb.take 300) (HXX.out (.cells #[.int .i64 0, .int .i64 n, .int .i64 fl, .slice xa xb.length xc] 32)).out (by rw [HM.out]; omega)
        rw [HM.out] at ht
        refine ht.mono ?_
        rintro e w2 ⟨rfl, h2⟩
        have H2 := mkH h2
        clear h2 ht c0 c1 c2 c3
        go_wp2_with fail
        exact ⟨HEND.out _ _ H2.out (inv_ap HI.out (by omega) (by rw [HM.out]; omega)), by simp [intOf]; omega⟩
      · have t0 : (kd == 0) = false := by simp [h0]
        by_cases h1 : kd = 1
        · subst h1
          go_wp2_with fail
          refine (sync_ln (HA.out _).out HI.out).mono ?_
          rintro e w2 ⟨rfl, h2⟩
          have H2 := mkH h2
          clear h2 c0 c1 c2 c3
          go_wp2_with fail
          exact ⟨HEND.out _ _ H2.out (Inv.more (inv_sy HI.out) (by omega)), by simp [intOf]; omega⟩
        · have t1 : (kd == 1) = false := by simp [h1]
          by_cases h2 : kd = 2
          · subst h2
            go_wp2_with fail
            refine (drop_ln (HA.out _).out HI.out (by omega) n).mono ?_
            rintro e w2 ⟨rfl, h2⟩
            have H2 := mkH h2
            clear h2 c0 c1 c2 c3
            go_wp2_with fail
            exact ⟨HEND.out _ _ H2.out (Inv.more (inv_dr HI.out n) (by omega)), by simp [intOf]; omega⟩
          · have t2 : (kd == 2) = false := by simp [h2]
            by_cases h3 : kd = 3
            · subst h3
              go_wp2_with fail
              refine (crash_ln (HA.out _).out HI.out n fl hxf).mono ?_
              rintro e w2 ⟨rfl, h2⟩
              have H2 := mkH h2
              clear h2 c0 c1 c2 c3
              go_wp2_with fail
              exact ⟨HEND.out _ _ H2.out (Inv.more (inv_cr HI.out n fl) (by omega)), by simp [intOf]; omega⟩
            · have t3 : (kd == 3) = false := by simp [h3]
              by_cases h4 : kd = 4
              · subst h4
                go_wp2_with fail
                refine (restart_ln (HA.out _).out HI.out (by omega)).mono ?_
                rintro e w2 ⟨rfl, h2⟩
                have H2 := mkH h2
                clear h2 c0 c1 c2 c3
                go_wp2_with fail
                exact ⟨HEND.out _ _ H2.out (Inv.more (inv_rs HI.out) (by omega)), by simp [intOf]; omega⟩
              · have t4 : (kd == 4) = false := by simp [h4]
                clear h0 h1 h2 h3 h4
                go_wp2_with fail
                exact ⟨HEND.out _ _ (HA.out _).out (Inv.more HI.out (by omega)), by simp [intOf]; omega⟩
end Go.Proofs.YtjfbhchpgmimfaaDoor.Sx
