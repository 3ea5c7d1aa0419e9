/-
  The document's Receive.
-/
import Derived.Test.YtcpmaddleleblaaDoorGpU
import Derived.Test.YtcpmaddleleblaaDoorGpV
namespace Go.Proofs.YtcpmaddleleblaaDoor.Grv
open Go.RowKit Kt Gf Gp Gr Gk Ga Gs Gb Gg
set_option linter.unusedVariables false
set_option linter.unusedSimpArgs false
set_option maxRecDepth 20000

def Ap (u v : Value) : Prop := ∀ q, u.ownBlock = some q → v.ownBlock ≠ some q
theorem Ap.symm {u v : Value} (h : Ap u v) : Ap v u := fun q hq hu => h q hu hq
theorem tri {W W5 : World} {b e s m : Nat} {x x' y : Value} {ys : List Value} (hy : W.ownsRow b e s y m ys) (hxy : Ap x y) (hgr : W.grownBy W5 x.ownBlock) (hat : x'.ownBlock = x.ownBlock ∨ x'.ownBlock = some W.heap.size) : W5.ownsRow b e s y m ys ∧ Ap x' y := by
  refine ⟨Gv.own_other hy hgr (fun k hk hk2 => hxy k hk2 hk), fun q hq hy2 => ?_⟩
  rcases hat with h | h
  · rw [hq] at h; exact hxy q h.symm hy2
  · rw [hq] at h; simp only [Option.some.injEq] at h; have := (hy.lt q hy2).2; omega
/-- Three rows of the call's own, apart from each other. -/
structure Tr (b : Nat) (W : World) (kt gt dd : List K) (ka : Option Addr) (kc : Nat) (ga : Option Addr) (gc : Nat) (da : Option Addr) (dc : Nat) : Prop where
  k : W.ownsRow b 61 6 (.slice ka kt.length kc) kt.length (Fk kt)
  g : W.ownsRow b 61 6 (.slice ga gt.length gc) gt.length (Fk gt)
  d : W.ownsRow b 61 6 (.slice da dd.length dc) dd.length (Fk dd)
  kg : Ap (.slice ka kt.length kc) (.slice ga gt.length gc)
  kd : Ap (.slice ka kt.length kc) (.slice da dd.length dc)
  gd : Ap (.slice ga gt.length gc) (.slice da dd.length dc)
theorem Tr.nil (b : Nat) (W : World) : Tr b W [] [] [] none 0 none 0 none 0 :=
  ⟨World.ownsRow_nil W _ _ _, World.ownsRow_nil W _ _ _, World.ownsRow_nil W _ _ _, fun q hq => by simp [Value.ownBlock] at hq, fun q hq => by simp [Value.ownBlock] at hq, fun q hq => by simp [Value.ownBlock] at hq⟩
section
variable {b : Nat} {W W5 : World} {kt gt dd : List K} {ka : Option Addr} {kc : Nat} {ga : Option Addr} {gc : Nat} {da : Option Addr} {dc : Nat}
theorem Tr.below (h : Tr b W kt gt dd ka kc ga gc da dc) (hb : Below W.heap.size W W5) : Tr b W5 kt gt dd ka kc ga gc da dc :=
  ⟨own_below h.k hb, own_below h.g hb, own_below h.d hb, h.kg, h.kd, h.gd⟩
theorem Tr.growK (h : Tr b W kt gt dd ka kc ga gc da dc) (hgr : W.grownBy W5 (Value.slice ka kt.length kc).ownBlock) {l : List K} {a5 : Option Addr} {c5 : Nat} (hat : (Value.slice a5 l.length c5).ownBlock = (Value.slice ka kt.length kc).ownBlock ∨ (Value.slice a5 l.length c5).ownBlock = some W.heap.size) (ho : W5.ownsRow b 61 6 (.slice a5 l.length c5) l.length (Fk l)) : Tr b W5 l gt dd a5 c5 ga gc da dc := by
  have h1 := tri h.g h.kg hgr hat
  have h2 := tri h.d h.kd hgr hat
  exact ⟨ho, h1.1, h2.1, h1.2, h2.2, h.gd⟩
theorem Tr.growG (h : Tr b W kt gt dd ka kc ga gc da dc) (hgr : W.grownBy W5 (Value.slice ga gt.length gc).ownBlock) {l : List K} {a5 : Option Addr} {c5 : Nat} (hat : (Value.slice a5 l.length c5).ownBlock = (Value.slice ga gt.length gc).ownBlock ∨ (Value.slice a5 l.length c5).ownBlock = some W.heap.size) (ho : W5.ownsRow b 61 6 (.slice a5 l.length c5) l.length (Fk l)) : Tr b W5 kt l dd ka kc a5 c5 da dc := by
  have h1 := tri h.k h.kg.symm hgr hat
  have h2 := tri h.d h.gd hgr hat
  exact ⟨h1.1, ho, h2.1, h1.2.symm, h.kd, h2.2⟩
theorem Tr.growD (h : Tr b W kt gt dd ka kc ga gc da dc) (hgr : W.grownBy W5 (Value.slice da dd.length dc).ownBlock) {l : List K} {a5 : Option Addr} {c5 : Nat} (hat : (Value.slice a5 l.length c5).ownBlock = (Value.slice da dd.length dc).ownBlock ∨ (Value.slice a5 l.length c5).ownBlock = some W.heap.size) (ho : W5.ownsRow b 61 6 (.slice a5 l.length c5) l.length (Fk l)) : Tr b W5 kt gt l ka kc ga gc a5 c5 := by
  have h1 := tri h.k h.kd.symm hgr hat
  have h2 := tri h.g h.gd.symm hgr hat
  exact ⟨h1.1, h2.1, ho, h.kg, h1.2.symm, h2.2.symm⟩
end
theorem take_one {kp : List K} {j : Nat} {x : K} {gt : List K} (hx : kp[j]? = some x) : gt ++ [x] = gt ++ (kp.drop j).take (j + 1 - j) := by
  rw [show j + 1 - j = 1 by omega, List.take_one, List.head?_drop, hx]; rfl
theorem take_more {kp : List K} {j j0 : Nat} {x : K} {gt : List K} (hx : kp[j]? = some x) (hj : j0 ≤ j) : gt ++ (kp.drop j0).take (j - j0) ++ [x] = gt ++ (kp.drop j0).take (j + 1 - j0) := by
  rw [List.append_assoc]
  congr 1
  rw [show j + 1 - j0 = j - j0 + 1 by omega, List.take_add_one, List.getElem?_drop, show j0 + (j - j0) = j by omega, hx]
  rfl
/-- What the loop has, at place j. -/
def Iv (now mx secs most room : Int) (kp : List K) (j : Nat) (kt gt dd : List K) (ov : Bool) : Prop :=
  (ov = false ∧ kt = gt ∧ rcv now mx secs most room [] [] kp = rcv now mx secs most room gt dd (kp.drop j)) ∨
  (ov = true ∧ ∃ j0, j0 ≤ j ∧ rcv now mx secs most room [] [] kp = (gt, dd, kp.drop j0) ∧ kt = gt ++ (kp.drop j0).take (j - j0))
theorem Iv.done {now mx secs most room : Int} {kp kt gt dd : List K} {ov : Bool} (h : Iv now mx secs most room kp kp.length kt gt dd ov) : (rcv now mx secs most room [] [] kp).1 = gt ∧ (rcv now mx secs most room [] [] kp).2.1 = dd ∧ (rcv now mx secs most room [] [] kp).1 ++ (rcv now mx secs most room [] [] kp).2.2 = kt := by
  rcases h with ⟨-, h1, h2⟩ | ⟨-, j0, h1, h2, h3⟩
  · rw [h2, List.drop_length, rcv]
    exact ⟨rfl, rfl, by simp [h1]⟩
  · rw [h2]
    refine ⟨rfl, rfl, ?_⟩
    rw [h3]
    show gt ++ kp.drop j0 = _
    rw [List.take_of_length_le (by rw [List.length_drop]; omega)]

set_option maxHeartbeats 8000000 in
theorem rreceive_any (w : World) (g : G) (ka : Option Addr) (kc : Nat) (ma : Option Addr) (mc : Nat) (h : Gl w g ka kc ma mc) (hk : g.kept.length ≤ 100000000) (hm : g.marks.length ≤ 1000000000) (ho : OkG g) (now mx secs most room : Int) (hn : Sm now) (hs : Sm secs)
    (g' : G) (got dead : List K) (hg' : rcvG g now mx secs most room = g') (hgot : rcvGot g now mx secs most room = got) (hdead : rcvDead g now mx secs most room = dead) :
    Calls Tryd.prog 11 #[.agg (gC g ka kc ma mc), .int .i64 now, .int .i64 mx, .int .i64 secs, .int .i64 most, .int .i64 room] w fun e w' => ∃ ka' kc' ma' mc' ga gc da dc, e = .returned (.tuple #[.agg (gC g' ka' kc' ma' mc'), .slice ga got.length gc, .slice da dead.length dc]) ∧ Gl w' g' ka' kc' ma' mc' ∧ Ls w' got ga gc ∧ Ls w' dead da dc ∧ Below w.heap.size w w' := by
  have HL := mkH h
  have HOk := mkH ho
  have HG' := mkH hg'
  have HGo := mkH hgot
  have HDe := mkH hdead
  have hb1 : -9223372036854775808 ≤ now + secs := by unfold Sm at hn hs; omega
  have hb2 : now + secs ≤ 9223372036854775807 := by unfold Sm at hn hs; omega
  clear h ho hg' hgot hdead hn hs
  obtain ⟨nx, kp, mk, at'⟩ := g
  simp only [gC] at hk hm ⊢
  have HA := mkH (((Below.refl w.heap.size w).alloc (Nat.le_refl _) (.cells #[Value.int .i64 nx, .slice ka kp.length kc, .slice ma mk.length mc, .string at'] 25)).alloc (by simp) (.cells #[Value.int .i64 0, .slice none 0 0, .slice none 0 0, .string ⟨#[]⟩] 25))
  have HC0 := mkH ((Bx.new w #[Value.int .i64 nx, .slice ka kp.length kc, .slice ma mk.length mc, .string at'] 25).alloc (.cells #[Value.int .i64 0, .slice none 0 0, .slice none 0 0, .string ⟨#[]⟩] 25))
  have HC1 := mkH (Bx.new1 w (.cells #[Value.int .i64 nx, .slice ka kp.length kc, .slice ma mk.length mc, .string at'] 25) #[Value.int .i64 0, .slice none 0 0, .slice none 0 0, .string ⟨#[]⟩] 25)
  have HSZ0 : Hid (((w.alloc (.cells #[Value.int .i64 nx, .slice ka kp.length kc, .slice ma mk.length mc, .string at'] 25)).alloc (.cells #[Value.int .i64 0, .slice none 0 0, .slice none 0 0, .string ⟨#[]⟩] 25)).heap.size = w.heap.size + 2) := by unfold Hid; simp
  go_enter Tryd.func11, Tryd.ntmps11
  go_wp2_with fail
  generalize (w.alloc (.cells #[Value.int .i64 nx, .slice ka kp.length kc, .slice ma mk.length mc, .string at'] 25)).alloc (.cells #[Value.int .i64 0, .slice none 0 0, .slice none 0 0, .string ⟨#[]⟩] 25) = w0 at *
  obtain ⟨R, hR⟩ : ∃ R, w.heap.size + 1 = R := ⟨_, rfl⟩
  rw [hR] at HC1 ⊢
  have h3 := HSZ0.out
  have r1 : w.heap.size < R := by omega
  have r2 : R < w0.heap.size := by omega
  have hneR : ¬ w.heap.size = R := by omega
  have hneR2 : ¬ R = w.heap.size := by omega
  clear hR
  refine (Gu.rcopy_any w0 ⟨nx, kp, mk, at'⟩ ka kc ma mc (HL.out.below HA.out) (by show kp.length ≤ _; omega) hm).mono ?_
  rintro e w1 ⟨ka1, kc1, ma1, mc1, rfl, hg1, hb1'⟩
  simp only [gC]
  have hC1 := HC1.out.bel hb1'
  have hC0 := HC0.out.bel hb1'
  obtain ⟨d0, d1, d2, d3, f0, f1, f2, f3⟩ := hC0.four
  have HC11 := mkH hC1
  have HC01 := mkH hC0
  have HG1 := mkH hg1
  have HB1 : Hid (Below w.heap.size w w1) := HA.out.trans (hb1'.mono (by omega))
  clear hC1 hC0 hg1 hb1' HC0 HC1 HA
  go_wp2_with fail
  obtain ⟨hO2, hF2⟩ := HC01.out.sAll (v0 := .int .i64 nx) (v1 := .slice ka1 kp.length kc1) (v2 := .slice ma1 mk.length mc1) (v3 := .string at')
  have hR2 := HC11.out.fr hF2 hneR2
  have hK2 := own_fr HG1.out.k hF2 (fun k hk hk2 => own_ne HG1.out.k HC01.out hk (by decide) hk2)
  have hM2 := own_fr HG1.out.m hF2 (fun k hk hk2 => own_ne HG1.out.m HC01.out hk (by decide) hk2)
  have HB2 := mkH (below_fr HB1.out hF2 (fun k hk => by omega) (Nat.le_refl _))
  generalize (((w1.setCell ⟨w.heap.size, 0, none⟩ (.int .i64 nx)).setCell ⟨w.heap.size, 1, none⟩ (.slice ka1 kp.length kc1)).setCell ⟨w.heap.size, 2, none⟩ (.slice ma1 mk.length mc1)).setCell ⟨w.heap.size, 3, none⟩ (.string at') = w2 at *
  have hgl2 : Gl w2 ⟨nx, kp, mk, at'⟩ ka1 kc1 ma1 mc1 := Go'.gl (B := w0.heap.size) ⟨hK2, hM2⟩
  have HF := mkH (Gu.rflying_any w2 ⟨nx, kp, mk, at'⟩ ka1 kc1 ma1 mc1 hgl2 (by show kp.length ≤ _; omega) now)
  simp only [gC] at HF
  refine HF.out.mono ?_
  rintro e w3 ⟨rfl, hb3⟩
  have HR3 := mkH (hR2.bel hb3)
  have HO3 := mkH (hO2.bel hb3)
  have HK3 := mkH (own_below hK2 hb3)
  have HM3 := mkH (own_below hM2 hb3)
  have HB3 : Hid (Below w.heap.size w w3) := HB2.out.trans (hb3.mono HB2.out.size)
  obtain ⟨d0, d1, d2, d3, f0, f1, f2, f3⟩ := HO3.out.four
  obtain ⟨e0, e1, e2, e3, y0, y1, y2, y3⟩ := HR3.out.four
  have hs3 := HR3.out.lt
  clear HC11 HC01 HG1 HB1 HF hR2 hF2 hO2 hK2 hM2 HB2 hb3 hgl2
  cases hfl : flying ⟨nx, kp, mk, at'⟩ now with
  | true =>
    have q1 : g' = ⟨nx, kp, mk, at'⟩ := by rw [← HG'.out]; unfold rcvG; rw [if_pos hfl]
    have q2 : got = [] := by rw [← HGo.out]; unfold rcvGot; rw [if_pos hfl]
    have q3 : dead = [] := by rw [← HDe.out]; unfold rcvDead; rw [if_pos hfl]
    subst q1 q2 q3
    clear hfl HG' HGo HDe
    go_wp2
    obtain ⟨hR4, hF4⟩ := HR3.out.sAll (v0 := .int .i64 nx) (v1 := .slice ka1 kp.length kc1) (v2 := .slice ma1 mk.length mc1) (v3 := .string at')
    generalize (((w3.setCell ⟨R, 0, none⟩ (.int .i64 nx)).setCell ⟨R, 1, none⟩ (.slice ka1 kp.length kc1)).setCell ⟨R, 2, none⟩ (.slice ma1 mk.length mc1)).setCell ⟨R, 3, none⟩ (.string at') = w4 at *
    refine bodyPost_ret (res_ctt rfl _ _ _ rfl rfl rfl (loadG hR4)) rfl ⟨ka1, kc1, ma1, mc1, none, 0, none, 0, rfl, Go'.gl (B := w0.heap.size) ⟨?_, ?_⟩, Ls.nil _, Ls.nil _, ?_⟩
    · exact own_fr HK3.out hF4 (fun k hk hk2 => own_ne HK3.out HR3.out hk (by decide) hk2)
    · exact own_fr HM3.out hF4 (fun k hk hk2 => own_ne HM3.out HR3.out hk (by decide) hk2)
    · exact below_fr HB3.out hF4 (by intro k hk; omega) (Nat.le_refl _)
  | false =>
    have HFL := mkH hfl
    clear hfl d0 d1 d2 d3 f0 f1 f2 f3 e0 e1 e2 e3 y0 y1 y2 y3
    go_wp2_with fail
    go_loopw [15, 16, 17, 18, 19] (fun s15 s16 s17 s18 i WW => ∃ (n : Nat) (kt gt dd : List K) (qa : Option Addr) (qc : Nat) (ga : Option Addr) (gc : Nat) (da : Option Addr) (dc : Nat) (ov : Bool), n ≤ kp.length ∧ i = .int .i64 (n : Int) ∧ s15 = .slice qa kt.length qc ∧ s16 = .slice ga gt.length gc ∧ s17 = .slice da dd.length dc ∧ s18 = .bool ov ∧ Hid (Iv now mx secs most room kp n kt gt dd ov) ∧ kt.length ≤ n ∧ gt.length ≤ n ∧ dd.length ≤ n ∧ Hid (Tr w3.heap.size WW kt gt dd qa qc ga gc da dc) ∧ Hid (Below w3.heap.size w3 WW)) (fun _ _ _ _ i _ => kp.length - (intOf i).toNat)
    case atStart => exact ⟨0, [], [], [], none, 0, none, 0, none, 0, false, Nat.zero_le _, rfl, rfl, rfl, rfl, rfl, mkH (.inl ⟨rfl, rfl, rfl⟩), Nat.le_refl _, Nat.le_refl _, Nat.le_refl _, Tr.nil _ _, Below.refl _ _⟩
    case round =>
      obtain ⟨j, kt, gt, dd, qa, qc, ga, gc, da, dc, ov, hj, rfl, rfl, rfl, rfl, rfl, HIv, hkl, hgl, hdl, HTr, HBw⟩ := hrel
      have hsw := HBw.out.size
      have HO4 := mkH (HO3.out.bel HBw.out)
      obtain ⟨d0, d1, d2, d3, f0, f1, f2, f3⟩ := HO4.out.four
      rcases Nat.lt_or_ge j kp.length with hjl | hjl
      · obtain ⟨x, hx⟩ := some_of hjl
        have h2 : (j : Int) < (kp.length : Int) := by omega
        have hokx := HOk.out.2.1 x (List.mem_of_getElem? hx)
        obtain ⟨b, off, rfl, z0, z1, z2, z3, z4, z5⟩ := atK ((RowS.own kC_len HK3.out).below HBw.out) hx
        have HDJ : Hid (kp.drop j = x :: kp.drop (j + 1)) := by
          obtain ⟨h1, h2⟩ := List.getElem?_eq_some_iff.1 hx
          unfold Hid; rw [← h2, List.getElem_cons_drop h1]
        have hc1 : -9223372036854775808 ≤ x.cnt + 1 := by have := hokx.2.2.1; unfold Sm at this; omega
        have hc2 : x.cnt + 1 ≤ 9223372036854775807 := by have := hokx.2.2.1; unfold Sm at this; omega
        obtain ⟨x0, x1, x2, x3, x4, x5⟩ := x
        simp only at z0 z1 z2 z3 z4 z5 hc1 hc2
        have HX := mkH hx
        clear hx hokx
        cases ov with
        | true =>
          obtain ⟨j0, hj0, hq0, hkt⟩ : ∃ j0, j0 ≤ j ∧ rcv now mx secs most room [] [] kp = (gt, dd, kp.drop j0) ∧ kt = gt ++ (kp.drop j0).take (j - j0) := by
            rcases HIv.out with ⟨h, -⟩ | ⟨-, h⟩
            · cases h
            · exact h
          have HQ0 := mkH hq0
          have HKT := mkH hkt
          clear hq0 hkt
          by_cases hmx : mx ≤ (gt.length : Int)
          · have t5 : decide (mx ≤ (gt.length : Int)) = true := by simpa using hmx
            have hal : Below wr.heap.size wr ((wr.alloc (.cells #[Value.int .i64 x0, .int .i64 x1, .int .i64 x2, .int .i64 x3, .int .i64 x4, .string x5] 61)).alloc (.cells #[Value.int .i64 x0, .int .i64 x1, .int .i64 x2, .int .i64 x3, .int .i64 x4, .string x5] 61)) := ((Below.refl _ wr).alloc (Nat.le_refl _) _).alloc (by simp) _
            have HS := mkH (newK (wr.alloc (.cells #[Value.int .i64 x0, .int .i64 x1, .int .i64 x2, .int .i64 x3, .int .i64 x4, .string x5] 61)) ⟨x0, x1, x2, x3, x4, x5⟩ 61)
            simp only [kC] at HS
            rw [show (wr.alloc (.cells #[Value.int .i64 x0, .int .i64 x1, .int .i64 x2, .int .i64 x3, .int .i64 x4, .string x5] 61)).heap.size = wr.heap.size + 1 by simp] at HS
            have HT := mkH (HTr.out.below hal)
            have HSZ : Hid (w3.heap.size ≤ ((wr.alloc (.cells #[Value.int .i64 x0, .int .i64 x1, .int .i64 x2, .int .i64 x3, .int .i64 x4, .string x5] 61)).alloc (.cells #[Value.int .i64 x0, .int .i64 x1, .int .i64 x2, .int .i64 x3, .int .i64 x4, .string x5] 61)).heap.size) := Nat.le_trans hsw hal.size
            have HBb : Hid (Below w3.heap.size w3 ((wr.alloc (.cells #[Value.int .i64 x0, .int .i64 x1, .int .i64 x2, .int .i64 x3, .int .i64 x4, .string x5] 61)).alloc (.cells #[Value.int .i64 x0, .int .i64 x1, .int .i64 x2, .int .i64 x3, .int .i64 x4, .string x5] 61))) := HBw.out.trans (hal.mono hsw)
            clear hal
            go_wp2_with (at_builtin; refine (Gv.wpList_append_own_src_at _ rfl (.tmp 77) (.tmp 79) 22 22 rfl w3.heap.size 61 _ 6 56 Tryd.underlying22 infoK rfl (by decide) _ kt.length (Fk kt) rfl HT.out.k _ 1 (Fk [⟨x0, x1, x2, x3, x4, x5⟩]) rfl HS.out ?h631 ?hby1 ?hbs1 ?_))
            case h631 => unfold maxLen; omega
            case hby1 => omega
            case hbs1 => first | exact HSZ.out | (have hh := HSZ.out; simp at hh; omega)
            intro v5 w5 hown hgr hat
            obtain ⟨l5, hl5⟩ : ∃ l5, kt ++ [(⟨x0, x1, x2, x3, x4, x5⟩ : K)] = l5 := ⟨_, rfl⟩
            have hl5l : kt.length + 1 = l5.length := by rw [← hl5]; simp
            rw [show Fk kt ++ Fk [⟨x0, x1, x2, x3, x4, x5⟩] = Fk l5 by rw [← hl5]; exact (Fl_append _ _).symm, hl5l] at hown
            obtain ⟨a5, c5, rfl⟩ := own_form hown
            have HT5 := mkH (HT.out.growK hgr (by simpa using hat) hown)
            have HB5 := mkH (below_own HT.out.k hgr HBb.out HSZ.out)
            have HL5 := mkH hl5
            have HL5l := mkH hl5l
            clear hown hgr hat hl5 hl5l HS HT HBb HSZ
            go_wp2
            go_roundw
            case rel => exact ⟨j + 1, l5, gt, dd, a5, c5, ga, gc, da, dc, true, by omega, by go_num, rfl, rfl, rfl, rfl, by unfold Hid; exact .inr ⟨rfl, j0, by omega, HQ0.out, by rw [← HL5.out, HKT.out]; exact take_more HX.out hj0⟩, by have := HL5l.out; omega, by omega, by omega, HT5, HB5⟩
            case measure => simp [intOf]; omega
          · have t5 : decide (mx ≤ (gt.length : Int)) = false := by simpa using hmx
            have hal : Below wr.heap.size wr ((wr.alloc (.cells #[Value.int .i64 x0, .int .i64 x1, .int .i64 x2, .int .i64 x3, .int .i64 x4, .string x5] 61)).alloc (.cells #[Value.int .i64 x0, .int .i64 x1, .int .i64 x2, .int .i64 x3, .int .i64 x4, .string x5] 61)) := ((Below.refl _ wr).alloc (Nat.le_refl _) _).alloc (by simp) _
            have HS := mkH (newK (wr.alloc (.cells #[Value.int .i64 x0, .int .i64 x1, .int .i64 x2, .int .i64 x3, .int .i64 x4, .string x5] 61)) ⟨x0, x1, x2, x3, x4, x5⟩ 61)
            simp only [kC] at HS
            rw [show (wr.alloc (.cells #[Value.int .i64 x0, .int .i64 x1, .int .i64 x2, .int .i64 x3, .int .i64 x4, .string x5] 61)).heap.size = wr.heap.size + 1 by simp] at HS
            have HT := mkH (HTr.out.below hal)
            have HSZ : Hid (w3.heap.size ≤ ((wr.alloc (.cells #[Value.int .i64 x0, .int .i64 x1, .int .i64 x2, .int .i64 x3, .int .i64 x4, .string x5] 61)).alloc (.cells #[Value.int .i64 x0, .int .i64 x1, .int .i64 x2, .int .i64 x3, .int .i64 x4, .string x5] 61)).heap.size) := Nat.le_trans hsw hal.size
            have HBb : Hid (Below w3.heap.size w3 ((wr.alloc (.cells #[Value.int .i64 x0, .int .i64 x1, .int .i64 x2, .int .i64 x3, .int .i64 x4, .string x5] 61)).alloc (.cells #[Value.int .i64 x0, .int .i64 x1, .int .i64 x2, .int .i64 x3, .int .i64 x4, .string x5] 61))) := HBw.out.trans (hal.mono hsw)
            clear hal
            go_wp2_with (at_builtin; refine (Gv.wpList_append_own_src_at _ rfl (.tmp 77) (.tmp 79) 22 22 rfl w3.heap.size 61 _ 6 56 Tryd.underlying22 infoK rfl (by decide) _ kt.length (Fk kt) rfl HT.out.k _ 1 (Fk [⟨x0, x1, x2, x3, x4, x5⟩]) rfl HS.out ?h632 ?hby2 ?hbs2 ?_))
            case h632 => unfold maxLen; omega
            case hby2 => omega
            case hbs2 => first | exact HSZ.out | (have hh := HSZ.out; simp at hh; omega)
            intro v5 w5 hown hgr hat
            obtain ⟨l5, hl5⟩ : ∃ l5, kt ++ [(⟨x0, x1, x2, x3, x4, x5⟩ : K)] = l5 := ⟨_, rfl⟩
            have hl5l : kt.length + 1 = l5.length := by rw [← hl5]; simp
            rw [show Fk kt ++ Fk [⟨x0, x1, x2, x3, x4, x5⟩] = Fk l5 by rw [← hl5]; exact (Fl_append _ _).symm, hl5l] at hown
            obtain ⟨a5, c5, rfl⟩ := own_form hown
            have HT5 := mkH (HT.out.growK hgr (by simpa using hat) hown)
            have HB5 := mkH (below_own HT.out.k hgr HBb.out HSZ.out)
            have HL5 := mkH hl5
            have HL5l := mkH hl5l
            clear hown hgr hat hl5 hl5l HS HT HBb HSZ
            go_wp2
            go_roundw
            case rel => exact ⟨j + 1, l5, gt, dd, a5, c5, ga, gc, da, dc, true, by omega, by go_num, rfl, rfl, rfl, rfl, by unfold Hid; exact .inr ⟨rfl, j0, by omega, HQ0.out, by rw [← HL5.out, HKT.out]; exact take_more HX.out hj0⟩, by have := HL5l.out; omega, by omega, by omega, HT5, HB5⟩
            case measure => simp [intOf]; omega
        | false =>
          obtain ⟨rfl, hR0⟩ : kt = gt ∧ rcv now mx secs most room [] [] kp = rcv now mx secs most room gt dd (kp.drop j) := by
            rcases HIv.out with ⟨-, h⟩ | ⟨h, -⟩
            · exact h
            · cases h
          have HR := mkH hR0
          clear hR0
          by_cases hmx : mx ≤ (kt.length : Int)
          · have t5 : decide (mx ≤ (kt.length : Int)) = true := by simpa using hmx
            have HMX := mkH hmx
            have hal : Below wr.heap.size wr ((wr.alloc (.cells #[Value.int .i64 x0, .int .i64 x1, .int .i64 x2, .int .i64 x3, .int .i64 x4, .string x5] 61)).alloc (.cells #[Value.int .i64 x0, .int .i64 x1, .int .i64 x2, .int .i64 x3, .int .i64 x4, .string x5] 61)) := ((Below.refl _ wr).alloc (Nat.le_refl _) _).alloc (by simp) _
            have HS := mkH (newK (wr.alloc (.cells #[Value.int .i64 x0, .int .i64 x1, .int .i64 x2, .int .i64 x3, .int .i64 x4, .string x5] 61)) ⟨x0, x1, x2, x3, x4, x5⟩ 61)
            simp only [kC] at HS
            rw [show (wr.alloc (.cells #[Value.int .i64 x0, .int .i64 x1, .int .i64 x2, .int .i64 x3, .int .i64 x4, .string x5] 61)).heap.size = wr.heap.size + 1 by simp] at HS
            have HT := mkH (HTr.out.below hal)
            have HSZ : Hid (w3.heap.size ≤ ((wr.alloc (.cells #[Value.int .i64 x0, .int .i64 x1, .int .i64 x2, .int .i64 x3, .int .i64 x4, .string x5] 61)).alloc (.cells #[Value.int .i64 x0, .int .i64 x1, .int .i64 x2, .int .i64 x3, .int .i64 x4, .string x5] 61)).heap.size) := Nat.le_trans hsw hal.size
            have HBb : Hid (Below w3.heap.size w3 ((wr.alloc (.cells #[Value.int .i64 x0, .int .i64 x1, .int .i64 x2, .int .i64 x3, .int .i64 x4, .string x5] 61)).alloc (.cells #[Value.int .i64 x0, .int .i64 x1, .int .i64 x2, .int .i64 x3, .int .i64 x4, .string x5] 61))) := HBw.out.trans (hal.mono hsw)
            clear hal
            go_wp2_with (at_builtin; refine (Gv.wpList_append_own_src_at _ rfl (.tmp 77) (.tmp 79) 22 22 rfl w3.heap.size 61 _ 6 56 Tryd.underlying22 infoK rfl (by decide) _ kt.length (Fk kt) rfl HT.out.k _ 1 (Fk [⟨x0, x1, x2, x3, x4, x5⟩]) rfl HS.out ?h633 ?hby3 ?hbs3 ?_))
            case h633 => unfold maxLen; omega
            case hby3 => omega
            case hbs3 => first | exact HSZ.out | (have hh := HSZ.out; simp at hh; omega)
            intro v5 w5 hown hgr hat
            obtain ⟨l5, hl5⟩ : ∃ l5, kt ++ [(⟨x0, x1, x2, x3, x4, x5⟩ : K)] = l5 := ⟨_, rfl⟩
            have hl5l : kt.length + 1 = l5.length := by rw [← hl5]; simp
            rw [show Fk kt ++ Fk [⟨x0, x1, x2, x3, x4, x5⟩] = Fk l5 by rw [← hl5]; exact (Fl_append _ _).symm, hl5l] at hown
            obtain ⟨a5, c5, rfl⟩ := own_form hown
            have HT5 := mkH (HT.out.growK hgr (by simpa using hat) hown)
            have HB5 := mkH (below_own HT.out.k hgr HBb.out HSZ.out)
            have HL5 := mkH hl5
            have HL5l := mkH hl5l
            clear hown hgr hat hl5 hl5l HS HT HBb HSZ
            go_wp2
            go_roundw
            case rel => exact ⟨j + 1, l5, kt, dd, a5, c5, ga, gc, da, dc, true, by omega, by go_num, rfl, rfl, rfl, rfl, by unfold Hid; exact .inr ⟨rfl, j, by omega, by rw [HR.out, HDJ.out]; exact rcv_stop (.inl HMX.out), by rw [← HL5.out]; exact take_one HX.out⟩, by have := HL5l.out; omega, by omega, by omega, HT5, HB5⟩
            case measure => simp [intOf]; omega
          · have HMX := mkH hmx
            have t5 : decide (mx ≤ (kt.length : Int)) = false := by simpa using hmx
            by_cases hw1 : 0 < most
            · have t1 : decide (0 < most) = true := by simpa using hw1
              by_cases hw2 : most ≤ x2
              · have t3 : decide (most ≤ x2) = true := by simpa using hw2
                have HW1 := mkH hw1
                have HW2 := mkH hw2
                by_cases hrm : room ≤ (dd.length : Int)
                · have HRM := mkH hrm
                  have t7 : decide ((dd.length : Int) < room) = false := by simp; omega
                  have t8 : ¬ (dd.length : Int) < room := by omega
                  have hal : Below wr.heap.size wr ((wr.alloc (.cells #[Value.int .i64 x0, .int .i64 x1, .int .i64 x2, .int .i64 x3, .int .i64 x4, .string x5] 61)).alloc (.cells #[Value.int .i64 x0, .int .i64 x1, .int .i64 x2, .int .i64 x3, .int .i64 x4, .string x5] 61)) := ((Below.refl _ wr).alloc (Nat.le_refl _) _).alloc (by simp) _
                  have HS := mkH (newK (wr.alloc (.cells #[Value.int .i64 x0, .int .i64 x1, .int .i64 x2, .int .i64 x3, .int .i64 x4, .string x5] 61)) ⟨x0, x1, x2, x3, x4, x5⟩ 61)
                  simp only [kC] at HS
                  rw [show (wr.alloc (.cells #[Value.int .i64 x0, .int .i64 x1, .int .i64 x2, .int .i64 x3, .int .i64 x4, .string x5] 61)).heap.size = wr.heap.size + 1 by simp] at HS
                  have HT := mkH (HTr.out.below hal)
                  have HSZ : Hid (w3.heap.size ≤ ((wr.alloc (.cells #[Value.int .i64 x0, .int .i64 x1, .int .i64 x2, .int .i64 x3, .int .i64 x4, .string x5] 61)).alloc (.cells #[Value.int .i64 x0, .int .i64 x1, .int .i64 x2, .int .i64 x3, .int .i64 x4, .string x5] 61)).heap.size) := Nat.le_trans hsw hal.size
                  have HBb : Hid (Below w3.heap.size w3 ((wr.alloc (.cells #[Value.int .i64 x0, .int .i64 x1, .int .i64 x2, .int .i64 x3, .int .i64 x4, .string x5] 61)).alloc (.cells #[Value.int .i64 x0, .int .i64 x1, .int .i64 x2, .int .i64 x3, .int .i64 x4, .string x5] 61))) := HBw.out.trans (hal.mono hsw)
                  clear hal
                  go_wp2_with (at_builtin; refine (Gv.wpList_append_own_src_at _ rfl (.tmp 77) (.tmp 79) 22 22 rfl w3.heap.size 61 _ 6 56 Tryd.underlying22 infoK rfl (by decide) _ kt.length (Fk kt) rfl HT.out.k _ 1 (Fk [⟨x0, x1, x2, x3, x4, x5⟩]) rfl HS.out ?h634 ?hby4 ?hbs4 ?_))
                  case h634 => unfold maxLen; omega
                  case hby4 => omega
                  case hbs4 => first | exact HSZ.out | (have hh := HSZ.out; simp at hh; omega)
                  intro v5 w5 hown hgr hat
                  obtain ⟨l5, hl5⟩ : ∃ l5, kt ++ [(⟨x0, x1, x2, x3, x4, x5⟩ : K)] = l5 := ⟨_, rfl⟩
                  have hl5l : kt.length + 1 = l5.length := by rw [← hl5]; simp
                  rw [show Fk kt ++ Fk [⟨x0, x1, x2, x3, x4, x5⟩] = Fk l5 by rw [← hl5]; exact (Fl_append _ _).symm, hl5l] at hown
                  obtain ⟨a5, c5, rfl⟩ := own_form hown
                  have HT5 := mkH (HT.out.growK hgr (by simpa using hat) hown)
                  have HB5 := mkH (below_own HT.out.k hgr HBb.out HSZ.out)
                  have HL5 := mkH hl5
                  have HL5l := mkH hl5l
                  clear hown hgr hat hl5 hl5l HS HT HBb HSZ
                  go_wp2
                  go_roundw
                  case rel => exact ⟨j + 1, l5, kt, dd, a5, c5, ga, gc, da, dc, true, by omega, by go_num, rfl, rfl, rfl, rfl, by unfold Hid; exact .inr ⟨rfl, j, by omega, by rw [HR.out, HDJ.out]; exact rcv_stop (.inr ⟨HW1.out, HW2.out, HRM.out⟩), by rw [← HL5.out]; exact take_one HX.out⟩, by have := HL5l.out; omega, by omega, by omega, HT5, HB5⟩
                  case measure => simp [intOf]; omega
                · have HRM := mkH hrm
                  have t7 : decide ((dd.length : Int) < room) = true := by simp; omega
                  have t8 : (dd.length : Int) < room := by omega
                  have hal : Below wr.heap.size wr ((wr.alloc (.cells #[Value.int .i64 x0, .int .i64 x1, .int .i64 x2, .int .i64 x3, .int .i64 x4, .string x5] 61)).alloc (.cells #[Value.int .i64 x0, .int .i64 x1, .int .i64 x2, .int .i64 x3, .int .i64 x4, .string x5] 61)) := ((Below.refl _ wr).alloc (Nat.le_refl _) _).alloc (by simp) _
                  have HS := mkH (newK (wr.alloc (.cells #[Value.int .i64 x0, .int .i64 x1, .int .i64 x2, .int .i64 x3, .int .i64 x4, .string x5] 61)) ⟨x0, x1, x2, x3, x4, x5⟩ 61)
                  simp only [kC] at HS
                  rw [show (wr.alloc (.cells #[Value.int .i64 x0, .int .i64 x1, .int .i64 x2, .int .i64 x3, .int .i64 x4, .string x5] 61)).heap.size = wr.heap.size + 1 by simp] at HS
                  have HT := mkH (HTr.out.below hal)
                  have HSZ : Hid (w3.heap.size ≤ ((wr.alloc (.cells #[Value.int .i64 x0, .int .i64 x1, .int .i64 x2, .int .i64 x3, .int .i64 x4, .string x5] 61)).alloc (.cells #[Value.int .i64 x0, .int .i64 x1, .int .i64 x2, .int .i64 x3, .int .i64 x4, .string x5] 61)).heap.size) := Nat.le_trans hsw hal.size
                  have HBb : Hid (Below w3.heap.size w3 ((wr.alloc (.cells #[Value.int .i64 x0, .int .i64 x1, .int .i64 x2, .int .i64 x3, .int .i64 x4, .string x5] 61)).alloc (.cells #[Value.int .i64 x0, .int .i64 x1, .int .i64 x2, .int .i64 x3, .int .i64 x4, .string x5] 61))) := HBw.out.trans (hal.mono hsw)
                  clear hal
                  go_wp2_with (at_builtin; refine (Gv.wpList_append_own_src_at _ rfl (.tmp 59) (.tmp 61) 22 22 rfl w3.heap.size 61 _ 6 56 Tryd.underlying22 infoK rfl (by decide) _ dd.length (Fk dd) rfl HT.out.d _ 1 (Fk [⟨x0, x1, x2, x3, x4, x5⟩]) rfl HS.out ?h635 ?hby5 ?hbs5 ?_))
                  case h635 => unfold maxLen; omega
                  case hby5 => omega
                  case hbs5 => first | exact HSZ.out | (have hh := HSZ.out; simp at hh; omega)
                  intro v5 w5 hown hgr hat
                  obtain ⟨l5, hl5⟩ : ∃ l5, dd ++ [(⟨x0, x1, x2, x3, x4, x5⟩ : K)] = l5 := ⟨_, rfl⟩
                  have hl5l : dd.length + 1 = l5.length := by rw [← hl5]; simp
                  rw [show Fk dd ++ Fk [⟨x0, x1, x2, x3, x4, x5⟩] = Fk l5 by rw [← hl5]; exact (Fl_append _ _).symm, hl5l] at hown
                  obtain ⟨a5, c5, rfl⟩ := own_form hown
                  have HT5 := mkH (HT.out.growD hgr (by simpa using hat) hown)
                  have HB5 := mkH (below_own HT.out.d hgr HBb.out HSZ.out)
                  have HL5 := mkH hl5
                  have HL5l := mkH hl5l
                  clear hown hgr hat hl5 hl5l HS HT HBb HSZ
                  go_wp2
                  go_roundw
                  case rel => exact ⟨j + 1, kt, kt, l5, qa, qc, ga, gc, a5, c5, false, by omega, by go_num, rfl, rfl, rfl, rfl, by unfold Hid; exact .inl ⟨rfl, rfl, by rw [HR.out, HDJ.out, rcv_dead (x := ⟨x0, x1, x2, x3, x4, x5⟩) (by have := HMX.out; omega) HW1.out HW2.out (by have := HRM.out; omega), HL5.out]⟩, by omega, by omega, by have := HL5l.out; omega, HT5, HB5⟩
                  case measure => simp [intOf]; omega
              · have t3 : decide (most ≤ x2) = false := by simpa using hw2
                have HGV : Hid (¬ 0 < most ∨ ¬ most ≤ x2) := .inr hw2
                have hal : Below wr.heap.size wr ((wr.alloc (.cells #[Value.int .i64 x0, .int .i64 x1, .int .i64 (x2 + 1), .int .i64 (now + secs), .int .i64 x4, .string x5] 61)).alloc (.cells #[Value.int .i64 x0, .int .i64 x1, .int .i64 (x2 + 1), .int .i64 (now + secs), .int .i64 x4, .string x5] 61)) := ((Below.refl _ wr).alloc (Nat.le_refl _) _).alloc (by simp) _
                have HS := mkH (newK (wr.alloc (.cells #[Value.int .i64 x0, .int .i64 x1, .int .i64 (x2 + 1), .int .i64 (now + secs), .int .i64 x4, .string x5] 61)) ⟨x0, x1, x2 + 1, now + secs, x4, x5⟩ 61)
                simp only [kC] at HS
                rw [show (wr.alloc (.cells #[Value.int .i64 x0, .int .i64 x1, .int .i64 (x2 + 1), .int .i64 (now + secs), .int .i64 x4, .string x5] 61)).heap.size = wr.heap.size + 1 by simp] at HS
                have HT := mkH (HTr.out.below hal)
                have HSZ : Hid (w3.heap.size ≤ ((wr.alloc (.cells #[Value.int .i64 x0, .int .i64 x1, .int .i64 (x2 + 1), .int .i64 (now + secs), .int .i64 x4, .string x5] 61)).alloc (.cells #[Value.int .i64 x0, .int .i64 x1, .int .i64 (x2 + 1), .int .i64 (now + secs), .int .i64 x4, .string x5] 61)).heap.size) := Nat.le_trans hsw hal.size
                have HBb : Hid (Below w3.heap.size w3 ((wr.alloc (.cells #[Value.int .i64 x0, .int .i64 x1, .int .i64 (x2 + 1), .int .i64 (now + secs), .int .i64 x4, .string x5] 61)).alloc (.cells #[Value.int .i64 x0, .int .i64 x1, .int .i64 (x2 + 1), .int .i64 (now + secs), .int .i64 x4, .string x5] 61))) := HBw.out.trans (hal.mono hsw)
                clear hal
                have HMb := mkH ((Bx.new wr #[Value.int .i64 x0, .int .i64 x1, .int .i64 (x2 + 1), .int .i64 (now + secs), .int .i64 x4, .string x5] 61).alloc (.cells #[Value.int .i64 x0, .int .i64 x1, .int .i64 (x2 + 1), .int .i64 (now + secs), .int .i64 x4, .string x5] 61))
                have hgo : ∀ k, (Value.slice ga kt.length gc).ownBlock = some k → k ≠ wr.heap.size := fun k hk => Nat.ne_of_lt (HTr.out.g.lt k hk).2
                have HGo2 := mkH hgo
                clear hgo
                go_wp2_with (at_builtin; refine (Gv.wpList_append_own_src_at _ rfl (.tmp 73) (.tmp 75) 22 22 rfl w3.heap.size 61 _ 6 56 Tryd.underlying22 infoK rfl (by decide) _ kt.length (Fk kt) rfl HT.out.g _ 1 (Fk [⟨x0, x1, x2 + 1, now + secs, x4, x5⟩]) rfl HS.out ?h636 ?hby6 ?hbs6 ?_))
                case h636 => unfold maxLen; omega
                case hby6 => omega
                case hbs6 => first | exact HSZ.out | (have hh := HSZ.out; simp at hh; omega)
                intro v5 w5 hown hgr hat
                obtain ⟨l5, hl5⟩ : ∃ l5, kt ++ [(⟨x0, x1, x2 + 1, now + secs, x4, x5⟩ : K)] = l5 := ⟨_, rfl⟩
                have hl5l : kt.length + 1 = l5.length := by rw [← hl5]; simp
                rw [show Fk kt ++ Fk [⟨x0, x1, x2 + 1, now + secs, x4, x5⟩] = Fk l5 by rw [← hl5]; exact (Fl_append _ _).symm, hl5l] at hown
                obtain ⟨a5, c5, rfl⟩ := own_form hown
                have HT5 := mkH (HT.out.growG hgr (by simpa using hat) hown)
                have HB5 := mkH (below_own HT.out.g hgr HBb.out HSZ.out)
                have HM5 := mkH (HMb.out.fr (fr_grown hgr) (fun hk => HGo2.out _ hk rfl))
                have HL5 := mkH hl5
                have HL5l := mkH hl5l
                have m0 : w5.cell? ⟨wr.heap.size, 0, none⟩ = some (.int .i64 x0) := HM5.out.cell 0 _ rfl
                have m1 : w5.cell? ⟨wr.heap.size, 1, none⟩ = some (.int .i64 x1) := HM5.out.cell 1 _ rfl
                have m2 : w5.cell? ⟨wr.heap.size, 2, none⟩ = some (.int .i64 (x2 + 1)) := HM5.out.cell 2 _ rfl
                have m3 : w5.cell? ⟨wr.heap.size, 3, none⟩ = some (.int .i64 (now + secs)) := HM5.out.cell 3 _ rfl
                have m4 : w5.cell? ⟨wr.heap.size, 4, none⟩ = some (.int .i64 x4) := HM5.out.cell 4 _ rfl
                have m5 : w5.cell? ⟨wr.heap.size, 5, none⟩ = some (.string x5) := HM5.out.cell 5 _ rfl
                clear hown hgr hat hl5 hl5l HS HT HBb HSZ HMb HGo2
                have hal6 : Below w5.heap.size w5 (w5.alloc (.cells #[Value.int .i64 x0, .int .i64 x1, .int .i64 (x2 + 1), .int .i64 (now + secs), .int .i64 x4, .string x5] 61)) := (Below.refl _ w5).alloc (Nat.le_refl _) _
                have HS := mkH (newK w5 ⟨x0, x1, x2 + 1, now + secs, x4, x5⟩ 61)
                simp only [kC] at HS
                have HT := mkH (HT5.out.below hal6)
                have HSZ : Hid (w3.heap.size ≤ (w5.alloc (.cells #[Value.int .i64 x0, .int .i64 x1, .int .i64 (x2 + 1), .int .i64 (now + secs), .int .i64 x4, .string x5] 61)).heap.size) := Nat.le_trans HB5.out.size hal6.size
                have HBb : Hid (Below w3.heap.size w3 (w5.alloc (.cells #[Value.int .i64 x0, .int .i64 x1, .int .i64 (x2 + 1), .int .i64 (now + secs), .int .i64 x4, .string x5] 61))) := HB5.out.trans (hal6.mono HB5.out.size)
                clear hal6
                go_wp2_with (at_builtin; refine (Gv.wpList_append_own_src_at _ rfl (.tmp 77) (.tmp 79) 22 22 rfl w3.heap.size 61 _ 6 56 Tryd.underlying22 infoK rfl (by decide) _ kt.length (Fk kt) rfl HT.out.k _ 1 (Fk [⟨x0, x1, x2 + 1, now + secs, x4, x5⟩]) rfl HS.out ?h637 ?hby7 ?hbs7 ?_))
                case h637 => unfold maxLen; omega
                case hby7 => omega
                case hbs7 => first | exact HSZ.out | (have hh := HSZ.out; simp at hh; omega)
                intro v6 w7 hown hgr hat
                rw [show Fk kt ++ Fk [⟨x0, x1, x2 + 1, now + secs, x4, x5⟩] = Fk l5 by rw [← HL5.out]; exact (Fl_append _ _).symm, HL5l.out] at hown
                obtain ⟨a6, c6, rfl⟩ := own_form hown
                have HT7 := mkH (HT.out.growK hgr (by simpa using hat) hown)
                have HB7 := mkH (below_own HT.out.k hgr HBb.out HSZ.out)
                clear hown hgr hat HS HT HBb HSZ HT5 HB5 m0 m1 m2 m3 m4 m5
                go_wp2
                go_roundw
                case rel => exact ⟨j + 1, l5, l5, dd, a6, c6, a5, c5, da, dc, false, by omega, by go_num, rfl, rfl, rfl, rfl, by unfold Hid; exact .inl ⟨rfl, rfl, by rw [HR.out, HDJ.out, rcv_give (x := ⟨x0, x1, x2, x3, x4, x5⟩) (by have := HMX.out; omega) (by have := HGV.out; simp only; omega)]; unfold given; rw [HL5.out]⟩, by have := HL5l.out; omega, by have := HL5l.out; omega, by omega, HT7, HB7⟩
                case measure => simp [intOf]; omega
            · have t1 : decide (0 < most) = false := by simpa using hw1
              have HGV : Hid (¬ 0 < most ∨ ¬ most ≤ x2) := .inl hw1
              have hal : Below wr.heap.size wr ((wr.alloc (.cells #[Value.int .i64 x0, .int .i64 x1, .int .i64 (x2 + 1), .int .i64 (now + secs), .int .i64 x4, .string x5] 61)).alloc (.cells #[Value.int .i64 x0, .int .i64 x1, .int .i64 (x2 + 1), .int .i64 (now + secs), .int .i64 x4, .string x5] 61)) := ((Below.refl _ wr).alloc (Nat.le_refl _) _).alloc (by simp) _
              have HS := mkH (newK (wr.alloc (.cells #[Value.int .i64 x0, .int .i64 x1, .int .i64 (x2 + 1), .int .i64 (now + secs), .int .i64 x4, .string x5] 61)) ⟨x0, x1, x2 + 1, now + secs, x4, x5⟩ 61)
              simp only [kC] at HS
              rw [show (wr.alloc (.cells #[Value.int .i64 x0, .int .i64 x1, .int .i64 (x2 + 1), .int .i64 (now + secs), .int .i64 x4, .string x5] 61)).heap.size = wr.heap.size + 1 by simp] at HS
              have HT := mkH (HTr.out.below hal)
              have HSZ : Hid (w3.heap.size ≤ ((wr.alloc (.cells #[Value.int .i64 x0, .int .i64 x1, .int .i64 (x2 + 1), .int .i64 (now + secs), .int .i64 x4, .string x5] 61)).alloc (.cells #[Value.int .i64 x0, .int .i64 x1, .int .i64 (x2 + 1), .int .i64 (now + secs), .int .i64 x4, .string x5] 61)).heap.size) := Nat.le_trans hsw hal.size
              have HBb : Hid (Below w3.heap.size w3 ((wr.alloc (.cells #[Value.int .i64 x0, .int .i64 x1, .int .i64 (x2 + 1), .int .i64 (now + secs), .int .i64 x4, .string x5] 61)).alloc (.cells #[Value.int .i64 x0, .int .i64 x1, .int .i64 (x2 + 1), .int .i64 (now + secs), .int .i64 x4, .string x5] 61))) := HBw.out.trans (hal.mono hsw)
              clear hal
              have HMb := mkH ((Bx.new wr #[Value.int .i64 x0, .int .i64 x1, .int .i64 (x2 + 1), .int .i64 (now + secs), .int .i64 x4, .string x5] 61).alloc (.cells #[Value.int .i64 x0, .int .i64 x1, .int .i64 (x2 + 1), .int .i64 (now + secs), .int .i64 x4, .string x5] 61))
              have hgo : ∀ k, (Value.slice ga kt.length gc).ownBlock = some k → k ≠ wr.heap.size := fun k hk => Nat.ne_of_lt (HTr.out.g.lt k hk).2
              have HGo2 := mkH hgo
              clear hgo
              go_wp2_with (at_builtin; refine (Gv.wpList_append_own_src_at _ rfl (.tmp 73) (.tmp 75) 22 22 rfl w3.heap.size 61 _ 6 56 Tryd.underlying22 infoK rfl (by decide) _ kt.length (Fk kt) rfl HT.out.g _ 1 (Fk [⟨x0, x1, x2 + 1, now + secs, x4, x5⟩]) rfl HS.out ?h638 ?hby8 ?hbs8 ?_))
              case h638 => unfold maxLen; omega
              case hby8 => omega
              case hbs8 => first | exact HSZ.out | (have hh := HSZ.out; simp at hh; omega)
              intro v5 w5 hown hgr hat
              obtain ⟨l5, hl5⟩ : ∃ l5, kt ++ [(⟨x0, x1, x2 + 1, now + secs, x4, x5⟩ : K)] = l5 := ⟨_, rfl⟩
              have hl5l : kt.length + 1 = l5.length := by rw [← hl5]; simp
              rw [show Fk kt ++ Fk [⟨x0, x1, x2 + 1, now + secs, x4, x5⟩] = Fk l5 by rw [← hl5]; exact (Fl_append _ _).symm, hl5l] at hown
              obtain ⟨a5, c5, rfl⟩ := own_form hown
              have HT5 := mkH (HT.out.growG hgr (by simpa using hat) hown)
              have HB5 := mkH (below_own HT.out.g hgr HBb.out HSZ.out)
              have HM5 := mkH (HMb.out.fr (fr_grown hgr) (fun hk => HGo2.out _ hk rfl))
              have HL5 := mkH hl5
              have HL5l := mkH hl5l
              have m0 : w5.cell? ⟨wr.heap.size, 0, none⟩ = some (.int .i64 x0) := HM5.out.cell 0 _ rfl
              have m1 : w5.cell? ⟨wr.heap.size, 1, none⟩ = some (.int .i64 x1) := HM5.out.cell 1 _ rfl
              have m2 : w5.cell? ⟨wr.heap.size, 2, none⟩ = some (.int .i64 (x2 + 1)) := HM5.out.cell 2 _ rfl
              have m3 : w5.cell? ⟨wr.heap.size, 3, none⟩ = some (.int .i64 (now + secs)) := HM5.out.cell 3 _ rfl
              have m4 : w5.cell? ⟨wr.heap.size, 4, none⟩ = some (.int .i64 x4) := HM5.out.cell 4 _ rfl
              have m5 : w5.cell? ⟨wr.heap.size, 5, none⟩ = some (.string x5) := HM5.out.cell 5 _ rfl
              clear hown hgr hat hl5 hl5l HS HT HBb HSZ HMb HGo2
              have hal6 : Below w5.heap.size w5 (w5.alloc (.cells #[Value.int .i64 x0, .int .i64 x1, .int .i64 (x2 + 1), .int .i64 (now + secs), .int .i64 x4, .string x5] 61)) := (Below.refl _ w5).alloc (Nat.le_refl _) _
              have HS := mkH (newK w5 ⟨x0, x1, x2 + 1, now + secs, x4, x5⟩ 61)
              simp only [kC] at HS
              have HT := mkH (HT5.out.below hal6)
              have HSZ : Hid (w3.heap.size ≤ (w5.alloc (.cells #[Value.int .i64 x0, .int .i64 x1, .int .i64 (x2 + 1), .int .i64 (now + secs), .int .i64 x4, .string x5] 61)).heap.size) := Nat.le_trans HB5.out.size hal6.size
              have HBb : Hid (Below w3.heap.size w3 (w5.alloc (.cells #[Value.int .i64 x0, .int .i64 x1, .int .i64 (x2 + 1), .int .i64 (now + secs), .int .i64 x4, .string x5] 61))) := HB5.out.trans (hal6.mono HB5.out.size)
              clear hal6
              go_wp2_with (at_builtin; refine (Gv.wpList_append_own_src_at _ rfl (.tmp 77) (.tmp 79) 22 22 rfl w3.heap.size 61 _ 6 56 Tryd.underlying22 infoK rfl (by decide) _ kt.length (Fk kt) rfl HT.out.k _ 1 (Fk [⟨x0, x1, x2 + 1, now + secs, x4, x5⟩]) rfl HS.out ?h639 ?hby9 ?hbs9 ?_))
              case h639 => unfold maxLen; omega
              case hby9 => omega
              case hbs9 => first | exact HSZ.out | (have hh := HSZ.out; simp at hh; omega)
              intro v6 w7 hown hgr hat
              rw [show Fk kt ++ Fk [⟨x0, x1, x2 + 1, now + secs, x4, x5⟩] = Fk l5 by rw [← HL5.out]; exact (Fl_append _ _).symm, HL5l.out] at hown
              obtain ⟨a6, c6, rfl⟩ := own_form hown
              have HT7 := mkH (HT.out.growK hgr (by simpa using hat) hown)
              have HB7 := mkH (below_own HT.out.k hgr HBb.out HSZ.out)
              clear hown hgr hat HS HT HBb HSZ HT5 HB5 m0 m1 m2 m3 m4 m5
              go_wp2
              go_roundw
              case rel => exact ⟨j + 1, l5, l5, dd, a6, c6, a5, c5, da, dc, false, by omega, by go_num, rfl, rfl, rfl, rfl, by unfold Hid; exact .inl ⟨rfl, rfl, by rw [HR.out, HDJ.out, rcv_give (x := ⟨x0, x1, x2, x3, x4, x5⟩) (by have := HMX.out; omega) (by have := HGV.out; simp only; omega)]; unfold given; rw [HL5.out]⟩, by have := HL5l.out; omega, by have := HL5l.out; omega, by omega, HT7, HB7⟩
              case measure => simp [intOf]; omega
      · have h2 : ¬ (j : Int) < (kp.length : Int) := by omega
        obtain rfl : j = kp.length := by omega
        obtain ⟨q1, q2, q3⟩ := Iv.done HIv.out
        have e1 : g' = ⟨nx, kt, mk, at'⟩ := by rw [← HG'.out]; unfold rcvG; rw [if_neg (by rw [HFL.out]; simp)]; show G.mk nx _ mk at' = _; rw [q3]
        have e2 : got = gt := by rw [← HGo.out]; unfold rcvGot; rw [if_neg (by rw [HFL.out]; simp)]; exact q1
        have e3 : dead = dd := by rw [← HDe.out]; unfold rcvDead; rw [if_neg (by rw [HFL.out]; simp)]; exact q2
        subst e1 e2 e3
        clear q1 q2 q3 HG' HGo HDe HIv
        have HR4 := mkH (HR3.out.bel HBw.out)
        have HM4 := mkH (own_below HM3.out HBw.out)
        obtain ⟨e0, e1, e2, e3, y0, y1, y2, y3⟩ := HR4.out.four
        have HB4 : Hid (Below w.heap.size w wr) := HB3.out.trans (HBw.out.mono HB3.out.size)
        go_wp2
        have hO5 := HO4.out.s1 (.slice qa kt.length qc)
        have hF5 := HO4.out.frset 1 (.slice qa kt.length qc)
        have hR5 := HR4.out.fr hF5 hneR2
        generalize wr.setCell ⟨w.heap.size, 1, none⟩ (.slice qa kt.length qc) = w5 at *
        obtain ⟨hR6, hF6⟩ := hR5.sAll (v0 := .int .i64 nx) (v1 := .slice qa kt.length qc) (v2 := .slice ma1 mk.length mc1) (v3 := .string at')
        generalize (((w5.setCell ⟨R, 0, none⟩ (.int .i64 nx)).setCell ⟨R, 1, none⟩ (.slice qa kt.length qc)).setCell ⟨R, 2, none⟩ (.slice ma1 mk.length mc1)).setCell ⟨R, 3, none⟩ (.string at') = w6 at *
        have hne : ∀ (X : Nat) (cs : Array Value), Bx wr X cs 25 → ∀ (n : Nat) (xs : List Value) (v : Value), wr.ownsRow w3.heap.size 61 6 v n xs → ∀ k, v.ownBlock = some k → ¬ k = X := fun X cs hX n xs v h k hk hk2 => own_ne h hX hk (by decide) hk2
        have lift : ∀ (n : Nat) (xs : List Value) (v : Value), wr.ownsRow w3.heap.size 61 6 v n xs → w6.ownsRow w3.heap.size 61 6 v n xs := fun n xs v h => own_fr (own_fr h hF5 (hne _ _ HO4.out n xs v h)) hF6 (hne _ _ HR4.out n xs v h)
        have k6 := lift _ _ _ HTr.out.k
        have g6 := lift _ _ _ HTr.out.g
        have d6 := lift _ _ _ HTr.out.d
        have m6 := own_fr (own_fr HM4.out hF5 (fun k hk hk2 => own_ne HM4.out HO4.out hk (by decide) hk2)) hF6 (fun k hk hk2 => own_ne HM4.out HR4.out hk (by decide) hk2)
        refine bodyPost_ret (res_ctt rfl _ _ _ rfl rfl rfl (loadG hR6)) rfl ⟨qa, qc, ma1, mc1, ga, gc, da, dc, rfl, ⟨RowS.own kC_len k6, RowS.own mC_len m6, own_le k6, own_le m6, own_cap k6, own_cap m6⟩, ⟨RowS.own kC_len g6, own_le g6, own_cap g6⟩, ⟨RowS.own kC_len d6, own_le d6, own_cap d6⟩, ?_⟩
        exact below_fr (below_fr HB4.out hF5 (by intro k hk; omega) (Nat.le_refl _)) hF6 (by intro k hk; omega) (Nat.le_refl _)
end Go.Proofs.YtcpmaddleleblaaDoor.Grv
