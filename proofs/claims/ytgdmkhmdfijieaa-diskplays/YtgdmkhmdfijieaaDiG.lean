/-
  A list of calls that came in; 'plays'.
-/
import Derived.Test.YtgdmkhmdfijieaaDiF
namespace Go.Proofs.Ytgdmkhmdfijieaa.Dg
open Go.RowKit Kt Dk Dp Da Db Dc Dd De Df
set_option linter.unusedVariables false
set_option maxRecDepth 20000

/-- A call, as it came in. -/
structure Ac where
  kind : Int
  n : Int
  flip : Int
  ao : Option Addr
  cap : Nat
  b : List UInt8
def aC (x : Ac) : List Value := [.int .i64 x.kind, .int .i64 x.n, .int .i64 x.flip, .slice x.ao x.b.length x.cap]
theorem aC_len (x : Ac) : (aC x).length = 4 := rfl
def AcOk (w : World) (x : Ac) : Prop := Row w x.ao x.b ∧ x.b.length ≤ x.cap ∧ x.cap ≤ 9223372036854775807 ∧ x.flip ≤ 9223372036854775807
/-- A slice of calls, as it is read. -/
def RowA (w : World) (ao : Option Addr) (l : List Ac) : Prop :=
  (∀ x ∈ l, AcOk w x) ∧ (0 < l.length → ∃ b off, ao = some ⟨b, off, none⟩ ∧ ∀ i x, l[i]? = some x → ∀ j v, (aC x)[j]? = some v → w.cell? ⟨b, off + i * 4 + j, none⟩ = some v)
theorem AcOk.below {w w' : World} {x : Ac} (h : AcOk w x) (hb : Below w.heap.size w w') : AcOk w' x := ⟨h.1.below hb, h.2⟩
theorem RowA.below {w w' : World} {ao : Option Addr} {l : List Ac} (h : RowA w ao l) (hb : Below w.heap.size w w') : RowA w' ao l := by
  refine ⟨fun x hx => (h.1 x hx).below hb, fun hl => ?_⟩
  obtain ⟨b, off, e, hc⟩ := h.2 hl
  refine ⟨b, off, e, fun i x hx j v hv => ?_⟩
  have h1 := hc i x hx j v hv
  rw [hb.cell (p := ⟨b, off + i * 4 + j, none⟩) (World.block_lt_of_cell? w _ h1)]
  exact h1
theorem Row_take {w : World} {ao : Option Addr} {bs : List UInt8} (h : Row w ao bs) (k : Nat) : Row w ao (bs.take k) := by
  intro hl
  rw [List.length_take] at hl
  obtain ⟨b, off, e, hc⟩ := h (by omega)
  refine ⟨b, off, e, fun i hi => ?_⟩
  rw [List.length_take] at hi
  rw [hc i (by omega)]
  simp [show i < k by omega]
/-- 'x.b[:min(len(x.b), n)]'. -/
theorem min_len (bs : List UInt8) (n : Nat) : ∃ m : Nat, (bs.take n).length = m ∧ (if (n : Int) < (bs.length : Int) then (n : Int) else (bs.length : Int)) = (m : Int) ∧ m ≤ n ∧ m ≤ bs.length := by
  by_cases h : n < bs.length
  · exact ⟨n, by rw [List.length_take]; omega, by rw [if_pos (by omega)], by omega, by omega⟩
  · exact ⟨bs.length, by rw [List.length_take]; omega, by rw [if_neg (by omega)], by omega, by omega⟩

/-- The call at a place of such a slice. -/
theorem RowA.at {w : World} {ao : Option Addr} {l : List Ac} (h : RowA w ao l) (i : Nat) (hi : i < l.length) : ∃ b off x, ao = some ⟨b, off, none⟩ ∧ AcOk w x ∧
    w.cell? ⟨b, off + i * 4, none⟩ = some (.int .i64 x.kind) ∧ w.cell? ⟨b, off + i * 4 + 1, none⟩ = some (.int .i64 x.n) ∧ w.cell? ⟨b, off + i * 4 + 2, none⟩ = some (.int .i64 x.flip) ∧ w.cell? ⟨b, off + i * 4 + 3, none⟩ = some (.slice x.ao x.b.length x.cap) := by
  obtain ⟨b, off, e, hc⟩ := h.2 (by omega)
  have hx : l[i]? = some l[i] := List.getElem?_eq_getElem hi
  exact ⟨b, off, l[i], e, h.1 _ (List.getElem_mem hi), hc i _ hx 0 _ rfl, hc i _ hx 1 _ rfl, hc i _ hx 2 _ rfl, hc i _ hx 3 _ rfl⟩

set_option maxHeartbeats 4000000 in
theorem plays_any (w : World) (ao : Option Addr) (cap : Nat) (l : List Ac) (hr : RowA w ao l) (hl : l.length ≤ cap) (hc : cap ≤ 9223372036854775807) :
    Calls Try.prog 23 #[.slice ao l.length cap] w fun e w' => ∃ D s, e = .returned (.pointer (some ⟨D, 0, none⟩)) ∧ s.down = false ∧ Dn w (fun k => k < w.heap.size) w' D s := by
  go_enter Try.func23, Try.ntmps23
  go_wp2_with fail
  refine (new_dn w).mono ?_
  rintro e w1 ⟨rfl, h1⟩
  obtain ⟨D, hD⟩ : ∃ D, w.heap.size = D := ⟨_, rfl⟩
  have H1 : Hid (Dn w (fun k => k < w.heap.size) w1 D Dp.new) := by unfold Hid; rw [← hD]; exact h1
  rw [hD]
  have HR := mkH hr
  clear h1 hr hD
  go_wp2_with fail
  go_loopw [4] (fun i W => ∃ j : Nat, j ≤ l.length ∧ j ≤ 60 ∧ i = .int .i64 j ∧ ∃ s, Hid (Dn w (fun k => k < w.heap.size) W D s)) (fun i _ => 60 - (intOf i).toNat)
  case atStart => exact ⟨0, by omega, by omega, rfl, _, H1⟩
  case round =>
    clear H1
    obtain ⟨j, hj, hj60, rfl, s, HD⟩ := hrel
    by_cases hj1 : j = l.length ∨ j = 60
    · have hj0 : (j = l.length ∧ decide ((j : Int) < (l.length : Int)) = false) ∨ (j = 60 ∧ j < l.length) := by
        rcases hj1 with h | h
        · exact .inl ⟨h, by simp; omega⟩
        · by_cases h2 : j = l.length
          · exact .inl ⟨h2, by simp; omega⟩
          · exact .inr ⟨h, by omega⟩
      clear hj1
      rcases hj0 with ⟨h1, h2⟩ | ⟨h1, h2⟩
      · clear h2
        subst h1
        go_wp2_with fail
        refine (down_dn HD.out).mono ?_
        rintro e w2 ⟨rfl, hw⟩
        have hw2 := hw.symm
        subst hw2
        clear hw
        cases hd : s.down
        · go_wp2
          go_ret
          exact ⟨D, s, rfl, hd, HD.out⟩
        · go_wp2_with fail
          refine (restart_dn HD.out).mono ?_
          rintro e w2 ⟨rfl, h2⟩
          have H2 := mkH h2
          have HS := mkH (show (rstS s).down = false by simp [rstS, hd])
          clear h2 hd
          go_wp2
          go_ret
          exact ⟨D, _, rfl, HS.out, H2.out⟩
      · subst h1
        go_wp2_with fail
        refine (down_dn HD.out).mono ?_
        rintro e w2 ⟨rfl, hw⟩
        have hw2 := hw.symm
        subst hw2
        clear hw
        cases hd : s.down
        · go_wp2
          go_ret
          exact ⟨D, s, rfl, hd, HD.out⟩
        · go_wp2_with fail
          refine (restart_dn HD.out).mono ?_
          rintro e w2 ⟨rfl, h2⟩
          have H2 := mkH h2
          have HS := mkH (show (rstS s).down = false by simp [rstS, hd])
          clear h2 hd
          go_wp2
          go_ret
          exact ⟨D, _, rfl, HS.out, H2.out⟩
    · have hjl : j < l.length := by omega
      have hj6 : j < 60 := by omega
      have hb := HD.out.toBelow (fun k hk => hk)
      obtain ⟨b, off, ⟨kd, n, fl, xa, xc, xb⟩, rfl, ⟨hrow, hxl, hxc, hxf⟩, c0, c1, c2, c3⟩ := (HR.out.below hb).at j hjl
      simp only at hrow hxl hxc hxf c0 c1 c2 c3
      obtain ⟨m, hm1, hm2, hm3, hm4⟩ := min_len xb 300
      have HX := mkH (Row_take hrow 300)
      have HM := mkH hm1
      have ha : ∀ o : Obj, Hid (Dn w (fun k => k < w.heap.size) (wr.alloc o) D s) := fun o => HD.out.below (below_alloc wr o)
      have hxx : ∀ o : Obj, Hid (Row (wr.alloc o) xa (xb.take 300)) := fun o => HX.out.below (below_alloc wr o)
      have HA := mkH ha
      have HXX := mkH hxx
      have hm2 : (if (300 : Int) < (xb.length : Int) then (300 : Int) else (xb.length : Int)) = (m : Int) := hm2
      have hend : ∀ W, (∃ s', Dn w (fun k => k < w.heap.size) W D s') → ∃ i : Nat, i ≤ l.length ∧ i ≤ 60 ∧ Value.int .i64 ((j : Int) + 1) = .int .i64 (i : Int) ∧ ∃ s, Hid (Dn w (fun k => k < w.heap.size) W D s) := fun W hW => ⟨j + 1, by omega, by omega, by go_num, hW⟩
      have HEND := mkH hend
      clear hj1 hb hrow hm1 ha hxx hend
      by_cases h0 : kd = 0
      · subst h0
        go_wp2_with fail
        have ht := append_dn (HA.out _).out xa xc (xb.take 300) (HXX.out (.cells #[.int .i64 0, .int .i64 n, .int .i64 fl, .slice xa xb.length xc] 30)).out (by rw [HM.out]; omega)
        rw [HM.out] at ht
        refine ht.mono ?_
        rintro e w2 ⟨rfl, h2⟩
        have H2 := mkH h2
        clear h2 ht c0 c1 c2 c3
        go_wp2_with fail
        exact ⟨HEND.out _ ⟨_, H2.out⟩, by simp [intOf]; omega⟩
      · have t0 : (kd == 0) = false := by simp [h0]
        by_cases h1 : kd = 1
        · subst h1
          go_wp2_with fail
          refine (sync_dn (HA.out _).out).mono ?_
          rintro e w2 ⟨rfl, h2⟩
          have H2 := mkH h2
          clear h2 c0 c1 c2 c3
          go_wp2_with fail
          exact ⟨HEND.out _ ⟨_, H2.out⟩, by simp [intOf]; omega⟩
        · have t1 : (kd == 1) = false := by simp [h1]
          by_cases h2 : kd = 2
          · subst h2
            go_wp2_with fail
            refine (cut_dn (HA.out _).out n).mono ?_
            rintro e w2 ⟨rfl, h2⟩
            have H2 := mkH h2
            clear h2 c0 c1 c2 c3
            go_wp2_with fail
            exact ⟨HEND.out _ ⟨_, H2.out⟩, by simp [intOf]; omega⟩
          · have t2 : (kd == 2) = false := by simp [h2]
            by_cases h3 : kd = 3
            · subst h3
              go_wp2_with fail
              have ht := swap_dn (HA.out _).out xa xc (xb.take 300) (HXX.out (.cells #[.int .i64 3, .int .i64 n, .int .i64 fl, .slice xa xb.length xc] 30)).out (by rw [HM.out]; omega)
              rw [HM.out] at ht
              refine ht.mono ?_
              rintro e w2 ⟨rfl, h2⟩
              have H2 := mkH h2
              clear h2 ht c0 c1 c2 c3
              go_wp2_with fail
              exact ⟨HEND.out _ ⟨_, H2.out⟩, by simp [intOf]; omega⟩
            · have t3 : (kd == 3) = false := by simp [h3]
              by_cases h4 : kd = 4
              · subst h4
                go_wp2_with fail
                refine (crash_dn (HA.out _).out n fl hxf).mono ?_
                rintro e w2 ⟨rfl, h2⟩
                have H2 := mkH h2
                clear h2 c0 c1 c2 c3
                go_wp2_with fail
                exact ⟨HEND.out _ ⟨_, H2.out⟩, by simp [intOf]; omega⟩
              · have t4 : (kd == 4) = false := by simp [h4]
                by_cases h5 : kd = 5
                · subst h5
                  go_wp2_with fail
                  refine (restart_dn (HA.out _).out).mono ?_
                  rintro e w2 ⟨rfl, h2⟩
                  have H2 := mkH h2
                  clear h2 c0 c1 c2 c3
                  go_wp2_with fail
                  exact ⟨HEND.out _ ⟨_, H2.out⟩, by simp [intOf]; omega⟩
                · have t5 : (kd == 5) = false := by simp [h5]
                  clear h0 h1 h2 h3 h4 h5
                  go_wp2_with fail
                  exact ⟨HEND.out _ ⟨_, (HA.out _).out⟩, by simp [intOf]; omega⟩
end Go.Proofs.Ytgdmkhmdfijieaa.Dg
