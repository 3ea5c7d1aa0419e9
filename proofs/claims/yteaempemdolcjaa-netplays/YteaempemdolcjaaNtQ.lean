/-
  The walk of NetOrder.
-/
import Derived.Test.YteaempemdolcjaaNtP
import Derived.Test.YteaempemdolcjaaNtL
namespace Go.Proofs.Yteaempemdolcjaa.Nq
open Go.RowKit Kt Gf Nr Gk Nv Ns Ks Nw Nx Na Nc Nee Ng Nl No Np
set_option linter.unusedVariables false
set_option linter.unusedSimpArgs false
set_option maxRecDepth 20000

theorem own_ft {C : Nat → Prop} {w w' : World} {b B n m : Nat} {v : Value} {xs : List Value} {L : List (Int × Int)} {p : Int} (h : w.ownsRow B 3 1 v n xs) (hg : Bg C w b L p) (hf : Fr (Ft C b w) w w') : w'.ownsRow B 3 1 v n xs := by
  obtain ⟨ao, cap, h1, h2, h3⟩ := hg
  refine own_fr h hf (fun k hk hq => ?_)
  rcases hq with rfl | ⟨-, cur, e⟩
  · exact own_ne h h1 hk (by decide) rfl
  · rcases h.2 with ⟨e1, -⟩ | ⟨g, c, cur', e1, -, hg', -⟩
    · rw [e1] at hk; simp [Value.ownBlock] at hk
    · rw [e1] at hk
      simp only [Value.ownBlock, Option.some.injEq] at hk
      subst hk
      rw [hg'] at e
      simp only [Option.some.injEq, Obj.cells.injEq] at e
      exact absurd e.2.1 (by decide)
/-- A bag stays where a row of numbers turns. -/
theorem Bg.row {C : Nat → Prop} {w w' : World} {b B n : Nat} {v : Value} {xs : List Value} {L : List (Int × Int)} {p : Int} (h : Bg C w b L p) (ho : w.ownsRow B 3 1 v n xs) (hf : Fr (fun k => v.ownBlock = some k) w w') : Bg C w' b L p := by
  refine h.fr hf (fun e => ?_) (fun k cur hk e => ?_)
  · obtain ⟨ao, cap, h1, -⟩ := h
    exact own_ne ho h1 e (by decide) rfl
  · rcases ho.2 with ⟨e1, -⟩ | ⟨g, c, cur', e1, -, hg', -⟩
    · rw [e1] at hk; simp [Value.ownBlock] at hk
    · rw [e1] at hk
      simp only [Value.ownBlock, Option.some.injEq] at hk
      subst hk
      rw [hg'] at e
      simp only [Option.some.injEq, Obj.cells.injEq] at e
      exact absurd e.2.1 (by decide)

theorem szInt : (Try.prog.info? 3).map (·.size) = some 1 := by kernel_rfl

set_option maxHeartbeats 4000000 in
theorem order_walk (w : World) (a0 a1 : Option Addr) (cap0 cap1 : Nat) (l0 l1 : List Int) (hr0 : RowE w a0 l0) (hr1 : RowE w a1 l1) (hc0 : l0.length ≤ cap0) (hc0' : cap0 ≤ 9223372036854775807) (hc1 : l1.length ≤ cap1) (hc1' : cap1 ≤ 9223372036854775807) :
    Calls Try.prog 6 #[.slice a0 l0.length cap0, .slice a1 l1.length cap1] w fun e w' => e = .returned (.bool true) ∧ Below w.heap.size w w' := by
  obtain ⟨m, hm⟩ : ∃ m, m = min l0.length 60 := ⟨_, rfl⟩
  obtain ⟨l, hl⟩ : ∃ l, l = l0.take 60 := ⟨_, rfl⟩
  have hlm : l.length = m := by rw [hl, List.length_take]; omega
  have hrl : RowE w a0 l := by rw [hl]; exact RowE.take hr0 60
  have hm1 : (if (60 : Int) < (l0.length : Int) then 60 else (l0.length : Int)) = (m : Int) := by split <;> omega
  have hm2 : min (l0.length : Int) 60 = (m : Int) := by omega
  have hm3 : m ≤ cap0 := by omega
  have hm4 : m ≤ 60 := by omega
  have HSR : Hid (Src Try.prog 1 28 (.slice a0 m cap0) m (Iv l) (w.alloc (.cells #[] 3))) := mkH (by
    have := RowE.src (hrl.below ((Below.refl w.heap.size w).alloc (Nat.le_refl _) (.cells #[] 3))) cap0
    rwa [hlm] at this)
  have HL := mkH hlm
  have HR1 := mkH hr1
  clear hlm hrl hr0 hr1 hm hl
  obtain ⟨n0, hn0⟩ : ∃ n0, n0 = l0.length := ⟨_, rfl⟩
  obtain ⟨n1, hn1⟩ : ∃ n1, n1 = l1.length := ⟨_, rfl⟩
  have HN1 := mkH hn1
  rw [← hn0] at hm1 hm2 hc0 ⊢
  rw [← hn1] at hc1 ⊢
  clear hn0 hn1
  go_enter Try.func6, Try.ntmps6
  go_wp2_with (at_builtin; refine (wpList_append_own_src _ rfl (.tmp 12) (.tmp 17) 28 28 rfl w.heap.size 3 _ 1 8 Try.underlying28 info_I rfl (by decide) _ 0 [] rfl (World.ownsRow_made w #[] 0 (Nat.le_refl _) (Nat.zero_le _) rfl) _ m (Iv l) rfl HSR.out ?h632 ?hby2 ?hbs2 ?_))
  case h632 => unfold maxLen; omega
  case hby2 => omega
  case hbs2 => simp
  intro v2 w2 hown2 hgrow2
  have hb2 := below_own (World.ownsRow_made (e := 3) (size := 1) w #[] 0 (Nat.le_refl _) (Nat.zero_le _) rfl) hgrow2 ((Below.refl w.heap.size w).alloc (Nat.le_refl _) (.cells #[] 3)) (by simp)
  have hown3 : w2.ownsRow w.heap.size 3 1 v2 m (Iv l) := by simpa using hown2
  obtain ⟨a2, c2, rfl⟩ := own_form hown3
  have hcl := own_le hown3
  have hcm := own_cap hown3
  obtain ⟨W3, hW3⟩ : ∃ W3, W3 = w2.alloc (.cells #[.slice none 0 0, .int .i64 0] 26) := ⟨_, rfl⟩
  have hb3 : Below w2.heap.size w2 W3 := by rw [hW3]; exact (Below.refl _ w2).alloc (Nat.le_refl _) _
  have HG3 : Hid (Bg (fun k => w.heap.size ≤ k) W3 w2.heap.size [] 0) := mkH (by rw [hW3]; exact Bg.new _ w2)
  have HO3 := mkH (own_below hown3 hb3)
  have HB3 : Hid (Below w.heap.size w W3) := mkH (hb2.trans (hb3.mono hb2.size))
  have hbw : w.heap.size ≤ w2.heap.size := hb2.size
  have HW3 := mkH hW3
  clear hown2 hgrow2 hb2 hown3 hb3 hW3 HSR
  obtain ⟨b, hb⟩ : ∃ b, b = w2.heap.size := ⟨_, rfl⟩
  have HBb := mkH hb
  go_wp2_with fail
  rw [show w2.alloc (.cells #[.slice none 0 0, .int .i64 0] 26) = W3 from HW3.out.symm]
  clear HW3
  rw [← hb] at HG3 hbw ⊢
  clear hb
  go_loopw [21] (fun s wr => ∃ k : Nat, k ≤ m ∧ s = .int .i64 k ∧ Hid (Bg (fun k => w.heap.size ≤ k) wr b (num 0 (l.take k)) (k : Int)) ∧ Hid (wr.ownsRow w.heap.size 3 1 (.slice a2 m c2) m (Iv l)) ∧ Hid (Below w.heap.size w wr)) (fun s _ => m - (intOf s).toNat)
  case atStart => exact ⟨0, Nat.zero_le _, rfl, HG3, HO3, HB3⟩
  case round =>
    clear HG3 HO3 HB3
    obtain ⟨k, hk, rfl, HG, HO, HB⟩ := hrel
    by_cases hlt : k < m
    · obtain ⟨x, hx⟩ := some_of (l := l) (i := k) (by rw [HL.out]; exact hlt)
      obtain ⟨bs, off, rfl, hcs⟩ := (RowE.own HO.out).2 (by rw [HL.out]; omega)
      have c2' := hcs k x hx
      have HS : Hid (num 0 (l.take (k + 1)) = num 0 (l.take k) ++ num (k : Int) [x]) := mkH (by
        rw [List.take_add_one, hx]
        have hmin : min k l.length = k := by rw [HL.out]; omega
        show num 0 (l.take k ++ [x]) = _
        rw [num_snoc, List.length_take, hmin]
        simp [num])
      have hMl : (num 0 (l.take k)).length ≤ 60 := by rw [num_len, List.length_take]; omega
      have HP := mkH (putnew HG.out (fun q hq => Nat.le_trans HB.out.size hq) ((Below.refl _ wr).alloc (Nat.le_refl _) (.cells #[.int .i64 x] 3)) wr.heap.size (Nat.le_refl _) (by simp) 1 [x] (Na.RowE.new1 wr x 3) (by simp; omega) (by omega) (by omega) (by simp) (by omega))
      clear hcs hx hMl
      go_wp2_with fail
      refine HP.out.mono ?_
      rintro e w5 ⟨rfl, g5, f5⟩
      have HG5 : Hid (Bg (fun k => w.heap.size ≤ k) w5 b (num 0 (l.take (k + 1))) ((k + 1 : Nat) : Int)) := mkH (by rw [HS.out]; simpa using g5)
      have HO5 := mkH (own_ft (m := 0) HO.out HG.out f5)
      have HB5 := mkH (ft_below HB.out (Nat.le_refl _) hbw f5)
      clear g5 f5 HP HG HO HB HS
      go_wp2
      go_roundw
      case rel => exact ⟨k + 1, by omega, by go_num, HG5, HO5, HB5⟩
      case measure => simp [intOf]; omega
    · have hkm : k = m := by omega
      have HG4 : Hid (Bg (fun k => w.heap.size ≤ k) wr b (num 0 l) (m : Int)) := mkH (by
        have := HG.out
        rw [List.take_of_length_le (by rw [HL.out]; omega)] at this
        rw [← hkm]; exact this)
      have HLL : Hid (l = (num 0 l).map Prod.snd ∧ (num 0 l).length = m) := mkH ⟨(num_snd l 0).symm, by rw [num_len, HL.out]⟩
      clear HG hkm
      go_wp2_with fail
      go_loopw [0, 8] (fun s0 s8 ws => ∃ (i n : Nat) (L : List (Int × Int)) (p : Int) (ao : Option Addr) (cap : Nat), s8 = .int .i64 i ∧ s0 = .slice ao n cap ∧ L.length = n ∧ n ≤ 60 + i ∧ i ≤ 60 ∧ 0 ≤ p ∧ p ≤ 60 + i ∧ Hid (Bg (fun k => w.heap.size ≤ k) ws b L p) ∧ Hid (ws.ownsRow w.heap.size 3 1 (.slice ao n cap) n (Iv (L.map Prod.snd))) ∧ Hid (Below w.heap.size w ws)) (fun _ s8 _ => 60 - (intOf s8).toNat)
      case atStart => exact ⟨0, m, num 0 l, m, a2, c2, rfl, rfl, HLL.out.2, by omega, by omega, by omega, by omega, HG4, mkH (by rw [← HLL.out.1]; exact HO.out), HB⟩
      case round =>
        clear HG4 HO HB
        obtain ⟨i, n, L, p, ao, cap, rfl, rfl, hLn, hn60, hi60, hp0, hp1, HG, HO, HB⟩ := hrel
        by_cases hgo : i < n1 ∧ i < 60 ∧ 0 < n
        · obtain ⟨g1, g2, g3⟩ := hgo
          obtain ⟨y, hy⟩ := some_of (l := l1) (i := i) (by rw [← HN1.out]; exact g1)
          obtain ⟨ba, oa, rfl, hcs⟩ := HR1.out (by rw [← HN1.out]; omega)
          have d2 := hcs i y hy
          have d3 : wr.cell? ⟨ba, oa + i, none⟩ = some (.int .i64 y) := by
            rw [World.cell?_of_block (w := w) (a := ⟨ba, oa + i, none⟩) (HB.out.block _ (World.block_lt_of_cell? w _ d2))]
            exact d2
          have HAT : Hid (∀ W, Calls Try.prog 14 #[.int .i64 y, .int .i64 (n : Int)] W fun e w' => ∃ j : Nat, e = .returned (.int .i64 (j : Int)) ∧ j < n ∧ w' = W) := mkH (fun W => (at_any y n (by omega) W).mono (fun e w' ⟨h1, h2⟩ => by
            have hh := atM_in y (s := (n : Int)) (by omega)
            refine ⟨(atM y n).toNat, ?_, by omega, h2⟩
            rw [h1, Int.toNat_of_nonneg hh.1]))
          have e1 : (i : Int) < (n1 : Int) := by omega
          have e2 : (i : Int) < 60 := by omega
          have e3 : (0 : Int) < (n : Int) := by omega
          have HLn := mkH hLn
          clear hcs hy d2 hLn g1 g2
          by_cases h3 : i % 3 = 2
          · have h3' : (i : Int) % 3 = 2 := by omega
            go_wp2_with (go_at_call 14; refine (HAT.out _).mono ?_; rintro e w4 ⟨j, rfl, hj, rfl⟩)
            obtain ⟨x, hx⟩ := some_of (l := L) (i := j) (by have := HLn.out; omega)
            have hdb := double_in HG.out (fun q hq => Nat.le_trans HB.out.size hq) j x hx (by have := HLn.out; omega) hp0 (by omega)
            refine hdb.mono ?_
            rintro e w5 ⟨rfl, q5, f5⟩
            have ho5 := own_ft (m := 0) HO.out HG.out f5
            have hb5 := ft_below HB.out (Nat.le_refl _) hbw f5
            obtain ⟨bl, ol, rfl, hcl'⟩ := (RowE.own ho5).2 (by rw [List.length_map]; have := HLn.out; omega)
            have d5 : w5.cell? ⟨bl, ol + j, none⟩ = some (.int .i64 x.2) := hcl' j x.2 (by rw [List.getElem?_map, hx]; rfl)
            have hal : Below w5.heap.size w5 (w5.alloc (.cells #[.int .i64 x.2] 3)) := (Below.refl _ w5).alloc (Nat.le_refl _) _
            have HOA := mkH (own_below ho5 hal)
            have HSA : Hid (Src Try.prog 1 28 (.slice (some ⟨w5.heap.size, 0, none⟩) 1 1) 1 [.int .i64 x.2] (w5.alloc (.cells #[.int .i64 x.2] 3))) := mkH (src_val Try.underlying28 w5 _ rfl)
            have HGA := mkH (q5.below hal)
            have HBA := mkH (hb5.trans (hal.mono hb5.size))
            have hbs5 : w.heap.size ≤ (w5.alloc (.cells #[.int .i64 x.2] 3)).heap.size := HBA.out.size
            have hcc := own_le ho5
            have hj1 : (j : Int) < (n : Int) := by omega
            have HX : Hid (∃ z, z = x.2) := mkH ⟨_, rfl⟩
            clear hdb q5 f5 ho5 hb5 hcl' hal hx HG HO HB HAT
            go_wp2_with (at_builtin; refine (wpList_append_own_src _ rfl (.tmp 56) (.tmp 61) 28 28 rfl w.heap.size 3 _ 1 8 Try.underlying28 info_I rfl (by decide) _ n (Iv (L.map Prod.snd)) rfl HOA.out _ 1 [.int .i64 x.2] rfl HSA.out ?h632 ?hby2 ?hbs2 ?_))
            case h632 => unfold maxLen; omega
            case hby2 => omega
            case hbs2 => exact hbs5
            intro v6 w6 hown6 hgr6
            obtain ⟨a6, c6, rfl⟩ := own_form hown6
            obtain ⟨n2, hn2⟩ : ∃ n2, n2 = n + 1 := ⟨_, rfl⟩
            obtain ⟨L2, hL2⟩ : ∃ L2 : List (Int × Int), L2 = L ++ [(p, x.2)] := ⟨_, rfl⟩
            obtain ⟨p2, hp2⟩ : ∃ p2, p2 = p + 1 := ⟨_, rfl⟩
            have HL2 : Hid (L2.length = n2 ∧ n2 ≤ 60 + (i + 1) ∧ 0 ≤ p2 ∧ p2 ≤ 60 + ((i + 1 : Nat) : Int)) := mkH ⟨by rw [hL2, List.length_append, List.length_singleton]; have := HLn.out; omega, by omega, by omega, by omega⟩
            have HG6 : Hid (Bg (fun k => w.heap.size ≤ k) w6 b L2 p2) := mkH (by rw [hL2, hp2]; exact Bg.row HGA.out HOA.out (fr_grown hgr6))
            have HB6 : Hid (Below w.heap.size w w6) := mkH (below_own HOA.out hgr6 HBA.out hbs5)
            rw [← hn2] at hown6 ⊢
            have HO6 : Hid (w6.ownsRow w.heap.size 3 1 (.slice a6 n2 c6) n2 (Iv (L2.map Prod.snd))) := mkH (by
              rw [hL2, List.map_append, Iv_append]; exact hown6)
            clear hown6 hgr6 hn2 hL2 hp2 HOA HSA HGA HBA hbs5 d5
            have HAL : Hid (Calls Try.prog 20 #[.pointer (some ⟨b, 0, none⟩)] w6 fun e w' => ∃ a7 c7, e = .returned (.tuple #[.slice a7 n2 c7, .bool true]) ∧ w'.ownsRow w6.heap.size 3 1 (.slice a7 n2 c7) n2 (Iv (L2.map Prod.snd)) ∧ Below w6.heap.size w6 w') := mkH (by
              have hh := alls_any HG6.out (by have := HL2.out; omega)
              unfold AlP at hh
              rw [List.length_map, HL2.out.1] at hh
              exact hh)
            go_wp2_with fail
            refine HAL.out.mono ?_
            rintro e w7 ⟨a7, c7, rfl, ho7, hb7⟩
            have HALK : Hid (Calls Try.prog 21 #[.slice a7 n2 c7, .slice a6 n2 c6] w7 fun e w' => e = .returned (.bool true) ∧ ∃ q, w' = w7.drewN q) := mkH (by
              have hh := alike_eq w7 a7 a6 c7 c6 (L2.map Prod.snd) (RowE.own ho7).2 (RowE.own (own_below HO6.out hb7)).2 (by rw [List.length_map]; have := HL2.out; omega) (by rw [List.length_map, HL2.out.1]; exact own_le ho7) (by rw [List.length_map, HL2.out.1]; exact own_le HO6.out)
              rw [List.length_map, HL2.out.1] at hh
              exact hh)
            have HG7 := mkH (HG6.out.below hb7)
            have HO7 := mkH (own_below HO6.out hb7)
            have HB7 := mkH (HB6.out.trans (hb7.mono HB6.out.size))
            clear ho7 hb7 HAL HG6 HO6 HB6
            go_wp2_with (go_at_call 21; refine HALK.out.mono ?_; rintro e w8 ⟨rfl, q8, rfl⟩)
            go_roundw
            case rel => exact ⟨i + 1, n2, L2, p2, a6, c6, by go_num, rfl, HL2.out.1, by have := HL2.out; omega, by omega, by have := HL2.out; omega, by have := HL2.out; omega, mkH (HG7.out.below (below_drewN (Below.refl _ _) _)), mkH (own_below HO7.out (below_drewN (Below.refl _ _) _)), mkH (below_drewN HB7.out _)⟩
            case measure => simp [intOf]; omega
          · have h3' : ¬ (i : Int) % 3 = 2 := by omega
            go_wp2_with (go_at_call 14; refine (HAT.out _).mono ?_; rintro e w4 ⟨j, rfl, hj, rfl⟩)
            obtain ⟨x, hx⟩ := some_of (l := L) (i := j) (by have := HLn.out; omega)
            have hdb := take_in HG.out j x hx (by have := HLn.out; omega)
            refine hdb.mono ?_
            rintro e w5 ⟨rfl, q5, f5⟩
            have ho5 := own_ft (m := 0) HO.out HG.out f5
            have hb5 := ft_below HB.out (Nat.le_refl _) hbw f5
            obtain ⟨vs, hvs⟩ : ∃ vs, vs = L.map Prod.snd := ⟨_, rfl⟩
            have hvl : vs.length = n := by rw [hvs, List.length_map]; exact HLn.out
            rw [← hvs] at ho5
            have hre := (RowE.own ho5).2
            have hcc := own_le ho5
            have hcx := own_cap ho5
            have k1 := fun W => Ns.run_h (P := Try.prog) W Try.underlying28 szInt ao n cap j (by omega)
            have k2 := fun W => Ns.run_l (P := Try.prog) W Try.underlying28 szInt ao n cap (j + 1) (by omega)
            have hal : Below w5.heap.size w5 (w5.alloc (.cells #[] 3)).drew := ((Below.refl _ w5).alloc (Nat.le_refl _) _).drew
            have hom : (w5.alloc (.cells #[] 3)).drew.ownsRow w5.heap.size 3 1 (.slice (some ⟨w5.heap.size, 0, none⟩) 0 0) 0 [] := own_below (World.ownsRow_made (e := 3) (size := 1) w5 #[] 0 (Nat.le_refl _) (Nat.zero_le _) rfl) (Below.refl _ _).drew
            have hs1 : Src Try.prog 1 28 (.slice ao j cap) j (Iv (vs.take j)) (w5.alloc (.cells #[] 3)).drew := by
              have := RowE.src (RowE.take (hre.below hal) j) cap
              rw [List.length_take, hvl, Nat.min_eq_left (by omega)] at this
              exact this
            have HS2 : Hid (∀ W, Below w5.heap.size w5 W → Src Try.prog 1 28 (.slice (Ns.ad ao cap (j + 1) 1) (n - (j + 1)) (cap - (j + 1))) (n - (j + 1)) (Iv (vs.drop (j + 1))) W) := mkH (fun W hW => by
              have := RowE.src (RowE.drop (hre.below hW) cap (j + 1) (by omega)) (cap - (j + 1))
              rw [List.length_drop, hvl] at this
              exact this)
            have HOM := mkH hom
            have HS1 := mkH hs1
            have HAL0 := mkH hal
            have hj1 : ((j + 1 : Nat) : Int) = (j : Int) + 1 := by omega
            rw [hj1] at k2
            have hjw : IntKind.i64.wrap ((j : Int) + 1) = (j : Int) + 1 := IntWalk.i64_in _ (by omega)
            obtain ⟨aj, haj⟩ : ∃ aj, Ns.ad ao cap (j + 1) 1 = aj := ⟨_, rfl⟩
            obtain ⟨nj, hnj⟩ : ∃ nj, n - (j + 1) = nj := ⟨_, rfl⟩
            obtain ⟨cj, hcj⟩ : ∃ cj, cap - (j + 1) = cj := ⟨_, rfl⟩
            rw [haj, hnj, hcj] at HS2
            simp only [haj, hnj, hcj] at k2
            have HNJ : Hid (j + nj + 1 = n) := mkH (by omega)
            have hnj60 : nj ≤ 200 := by omega
            have HVS := mkH hvs
            have HX := mkH hx
            have HQ5 := mkH q5
            have HB5 := mkH hb5
            have hj60 : j ≤ 200 := by omega
            clear hdb q5 f5 ho5 hb5 hre hal hom hs1 hx HG HO HB HAT hvl hvs haj hnj hcj hj1
            go_wp2_with fail
            go_region_law (first
              | (refine atApp (.tmp 65) (.tmp 68) 28 28 ?_ ?_; rfl; refine step_append_own_src (by rfl) (.tmp 65) (.tmp 68) 28 28 (by rfl) w5.heap.size 3 (.int .i64 0) 1 8 Try.underlying28 info_I (by rfl) (by decide) (.slice (some ⟨w5.heap.size, 0, none⟩) 0 0) 0 [] (by rfl) HOM.out (.slice ao j cap) j (Iv (vs.take j)) (by rfl) HS1.out (by unfold maxLen; omega) (by omega) (by simp) ?_; intro v1 w1 hown1 hgr1; have hbel1 := below_own HOM.out hgr1 HAL0.out (by simp); simp only [Nat.zero_add, List.nil_append] at hown1; have hform1 := own_form hown1; have HO1 := mkH hown1; have HBE1 := mkH hbel1; clear hown1 hgr1)
              | (refine atApp (.tmp 69) (.tmp 73) 28 28 ?_ ?_; rfl; refine step_append_own_src (by rfl) (.tmp 69) (.tmp 73) 28 28 (by rfl) w5.heap.size 3 (.int .i64 0) 1 8 Try.underlying28 info_I (by rfl) (by decide) v1 j (Iv (vs.take j)) (by rfl) HO1.out (.slice aj nj cj) nj (Iv (vs.drop (j + 1))) (by rfl) (HS2.out _ HBE1.out) (by unfold maxLen; omega) (by omega) HBE1.out.size ?_; intro v6 w6 hown6 hgr6; have hbel6 := below_own HO1.out hgr6 HBE1.out HBE1.out.size; have hform6 := own_form hown6; have HO6' := mkH hown6; have HBE6 := mkH hbel6; clear hown6 hgr6 hbel6 hbel1))
            all_goals
              obtain ⟨a6, c6, rfl⟩ := hform6
              obtain ⟨n2, hn2⟩ : ∃ n2, n2 = j + nj := ⟨_, rfl⟩
              obtain ⟨L2, hL2⟩ : ∃ L2 : List (Int × Int), L2 = L.take j ++ L.drop (j + 1) := ⟨_, rfl⟩
              obtain ⟨p2, hp2⟩ : ∃ p2, p2 = p := ⟨_, rfl⟩
              have HL2 : Hid (L2.length = n2 ∧ n2 ≤ 60 + (i + 1) ∧ 0 ≤ p2 ∧ p2 ≤ 60 + ((i + 1 : Nat) : Int)) := mkH ⟨by rw [hL2, List.length_append, List.length_take, List.length_drop]; have := HLn.out; have := HNJ.out; omega, by have := HNJ.out; omega, by omega, by omega⟩
              have HG6 : Hid (Bg (fun k => w.heap.size ≤ k) w6 b L2 p2) := mkH (by rw [hL2, hp2]; exact HQ5.out.below HBE6.out)
              have HB6 : Hid (Below w.heap.size w w6) := mkH (HB5.out.trans (HBE6.out.mono HB5.out.size))
              have HO6 : Hid (w6.ownsRow w.heap.size 3 1 (.slice a6 n2 c6) n2 (Iv (L2.map Prod.snd))) := mkH (by
                rw [hL2, List.map_append, Iv_append, List.map_take, List.map_drop, hn2, ← HVS.out]; exact own_mono HO6'.out HB5.out.size)
              rw [← hn2]
              clear hn2 hL2 hp2 HO6' HBE6 HBE1 HO1 HS2 HS1 HOM HAL0 k1 k2
              have HAL : Hid (Calls Try.prog 20 #[.pointer (some ⟨b, 0, none⟩)] w6 fun e w' => ∃ a7 c7, e = .returned (.tuple #[.slice a7 n2 c7, .bool true]) ∧ w'.ownsRow w6.heap.size 3 1 (.slice a7 n2 c7) n2 (Iv (L2.map Prod.snd)) ∧ Below w6.heap.size w6 w') := mkH (by
                have hh := alls_any HG6.out (by have := HL2.out; omega)
                unfold AlP at hh
                rw [List.length_map, HL2.out.1] at hh
                exact hh)
              go_wp2_with fail
              refine HAL.out.mono ?_
              rintro e w7 ⟨a7, c7, rfl, ho7, hb7⟩
              have HALK : Hid (Calls Try.prog 21 #[.slice a7 n2 c7, .slice a6 n2 c6] w7 fun e w' => e = .returned (.bool true) ∧ ∃ q, w' = w7.drewN q) := mkH (by
                have hh := alike_eq w7 a7 a6 c7 c6 (L2.map Prod.snd) (RowE.own ho7).2 (RowE.own (own_below HO6.out hb7)).2 (by rw [List.length_map]; have := HL2.out; omega) (by rw [List.length_map, HL2.out.1]; exact own_le ho7) (by rw [List.length_map, HL2.out.1]; exact own_le HO6.out)
                rw [List.length_map, HL2.out.1] at hh
                exact hh)
              have HG7 := mkH (HG6.out.below hb7)
              have HO7 := mkH (own_below HO6.out hb7)
              have HB7 := mkH (HB6.out.trans (hb7.mono HB6.out.size))
              clear ho7 hb7 HAL HG6 HO6 HB6
              go_wp2_with (go_at_call 21; refine HALK.out.mono ?_; rintro e w8 ⟨rfl, q8, rfl⟩)
              go_roundw
              case rel => exact ⟨i + 1, n2, L2, p2, a6, c6, by go_num, rfl, HL2.out.1, by have := HL2.out; omega, by omega, by have := HL2.out; omega, by have := HL2.out; omega, mkH (HG7.out.below (below_drewN (Below.refl _ _) _)), mkH (own_below HO7.out (below_drewN (Below.refl _ _) _)), mkH (below_drewN HB7.out _)⟩
              case measure => simp [intOf]; omega
        · have HEND : Hid (¬ (i < n1 ∧ i < 60 ∧ 0 < n)) := mkH hgo
          have HW : Hid (Calls Try.prog 24 #[] wr fun e w' => e = .returned (.bool true) ∧ Below wr.heap.size wr w') := mkH (works_any wr)
          by_cases g1 : i < n1
          · have e1 : (i : Int) < (n1 : Int) := by omega
            by_cases g2 : i < 60
            · have e2 : (i : Int) < 60 := by omega
              have g3 : n = 0 := by have := HEND.out; omega
              subst g3
              clear hgo
              go_wp2_with (go_at_call 24; refine HW.out.mono ?_; rintro e w9 ⟨rfl, hb9⟩)
              go_ret
              exact ⟨rfl, HB.out.trans (hb9.mono HB.out.size)⟩
            · have e2 : ¬ (i : Int) < 60 := by omega
              clear hgo
              go_wp2_with (go_at_call 24; refine HW.out.mono ?_; rintro e w9 ⟨rfl, hb9⟩)
              go_ret
              exact ⟨rfl, HB.out.trans (hb9.mono HB.out.size)⟩
          · have e1 : ¬ (i : Int) < (n1 : Int) := by omega
            clear hgo
            go_wp2_with (go_at_call 24; refine HW.out.mono ?_; rintro e w9 ⟨rfl, hb9⟩)
            go_ret
            exact ⟨rfl, HB.out.trans (hb9.mono HB.out.size)⟩
end Go.Proofs.Yteaempemdolcjaa.Nq
