/-
  Delete, Change.
-/
import Derived.Test.YtcpmaddleleblaaDoorGpI
namespace Go.Proofs.YtcpmaddleleblaaDoor.Gj
open Go.RowKit Kt Gf Gp Gr Gk Ga Gs Gb Ge Gg Gi
set_option linter.unusedVariables false
set_option linter.unusedSimpArgs false
set_option maxRecDepth 20000

/-- 'append(s, x...)' onto a slice that is read and has no room. -/
theorem run_append_full {P : Program} {α : Type} {sz : Nat} {cs : α → List Value} (hn : ∀ x, (cs x).length = sz) (h1 : ∀ x, ∀ u ∈ cs x, u.oneCell' = true) (hpos : 0 < sz) (w : World) (t tx ty e : TypeId) (z : Value) (bytes : Nat) (ht : P.underlying t = some (.slice e)) (hinfo : (P.info? e).map (fun i => (i.zero, i.size, i.bytes)) = some (some z, sz, bytes)) (hzs : z.cells.size = sz)
    (ao : Option Addr) (l l2 : List α) (hr : RowS sz cs w ao l) (x : Value) (hs : Src P sz tx x l2.length (Fl cs l2) w) (hl : l.length + l2.length ≤ 1000000000) (hby : (l.length + l2.length) * bytes ≤ 140737488355328) :
    ∃ a' c' w', (Builtin.append_ #[t, tx] ty #[.slice ao l.length l.length, x]).run P w = .ok (.slice a' (l.length + l2.length) c') w' ∧ RowS sz cs w' a' (l ++ l2) ∧ l.length + l2.length ≤ c' ∧ c' ≤ 9223372036854775807 ∧ Below w.heap.size w w' ∧ (a' = ao ∨ a' = some ⟨w.heap.size, 0, none⟩) := by
  obtain ⟨i, hi, hz, hsize, hbyt⟩ := info_parts hinfo
  rcases Nat.eq_zero_or_pos l2.length with h0 | h0
  · have e2 : l2 = [] := List.eq_nil_of_length_eq_zero h0
    subst e2
    refine ⟨ao, l.length, w, ?_, by simpa using hr, by simp, by omega, Below.refl _ _, .inl rfl⟩
    have hc := hs.cells
    have hle := hs.len
    simp only [Fl, List.flatMap_nil, List.length_nil] at hc hle
    rw [← hsize] at hc
    rcases hs.kind with ⟨e', hk⟩ | hk <;> cases ao <;> simp [Builtin.append_, run_underlying ht, run_underlying hk, sizeOf, typeInfo, hi, hle, hc, storeCells]
  · have hold : (Builtin.firstCells i.size l.length (.slice ao l.length l.length)).run P w.drew = .ok (Fl cs l).toArray w.drew := by
      rw [hsize]
      rcases Nat.eq_zero_or_pos l.length with hz0 | hz0
      · have e1 : l = [] := List.eq_nil_of_length_eq_zero hz0
        subst e1
        cases ao with
        | none => exact run_firstCells_none w.drew sz 0 0 0
        | some a => exact run_firstCells_some (P := P) w.drew sz 0 a 0 0 [] (by simp) (fun j u hj => by simp at hj)
      · have hsr := hr.src (P := P) (tx := t) hn h1 hpos ht l.length
        exact hsr.cellsD
    have hrun := run_append_grow_src (P := P) w t tx ty e i z ht hi hz ao l.length l.length (Fl cs l) hold x l2.length (Fl cs l2) (by rw [hsize]; exact hs) (by omega) (by omega) (growslice_fits (by omega) (by rw [hbyt]; exact hby))
    have hge := grownCap_ge w (l.length + l2.length) l.length e
    have hcm : grownCap w (l.length + l2.length) l.length e ≤ maxLen := grownCap_le_maxLen w _ _ e (by unfold maxLen; omega)
    refine ⟨_, _, _, hrun, ?_, hge, by unfold maxLen at hcm; omega, ⟨rfl, rfl, rfl, by simp, fun k hk => Below.heap_alloc w.drew _ k hk⟩, .inr rfl⟩
    intro _
    refine ⟨w.heap.size, 0, rfl, fun k y hy j v hv => ?_⟩
    have hj : j < sz := by have := lt_of hv; rwa [hn] at this
    rw [Nat.zero_add]
    refine cell_new_at w.drew _ e _ v ?_
    have hkl := lt_of hy
    have hin : k * sz + j < (Fl cs l ++ Fl cs l2).length := by
      rw [← Fl_append, Fl_length hn]
      have : (k + 1) * sz ≤ (l ++ l2).length * sz := Nat.mul_le_mul_right sz hkl
      rw [Nat.add_mul] at this
      omega
    rw [Array.getElem?_append_left (by simpa using hin), List.getElem?_toArray, ← Fl_append, Fl_at hn (l ++ l2) k y hy j hj, hv]

theorem RowS.fr {α : Type} {n : Nat} {cs : α → List Value} {w w' : World} {Q : Nat → Prop} {ao : Option Addr} {l : List α} (h : RowS n cs w ao l) (hf : Fr Q w w') (hq : ∀ a, ao = some a → ¬ Q a.block) : RowS n cs w' ao l := by
  intro hl
  obtain ⟨b, off, rfl, hc⟩ := h hl
  refine ⟨b, off, rfl, fun i x hx j v hv => ?_⟩
  have h1 := hc i x hx j v hv
  rw [World.cell?_of_block (w := w) (a := ⟨b, off + i * n + j, none⟩) (hf.heap (World.block_lt_of_cell? w _ h1) (hq ⟨b, off, none⟩ rfl))]
  exact h1
theorem own_addr {w : World} {base e size n cap : Nat} {ao : Option Addr} {xs : List Value} (h : w.ownsRow base e size (.slice ao n cap) n xs) {a : Addr} (ha : ao = some a) : (Value.slice ao n cap).ownBlock = some a.block := by
  rcases h.2 with ⟨e1, -⟩ | ⟨g, c, cur, e1, -⟩
  · simp only [Value.slice.injEq] at e1; rw [e1.1] at ha; cases ha
  · simp only [Value.slice.injEq] at e1
    obtain ⟨rfl, -, -⟩ := e1
    cases ha
    rfl

theorem own_cell {w : World} {B g n cap : Nat} {l : List K} (h : w.ownsRow B 61 6 (.slice (some ⟨g, 0, none⟩) n cap) n (Fk l)) {i : Nat} {x : K} (hx : l[i]? = some x) (v : Int) :
    (w.setCell ⟨g, i * 6 + 3, none⟩ (.int .i64 v)).ownsRow B 61 6 (.slice (some ⟨g, 0, none⟩) n cap) n (Fk (l.set i ⟨x.seq, x.sent, x.cnt, v, x.frm, x.body⟩)) ∧ Fr (fun k => k = g) w (w.setCell ⟨g, i * 6 + 3, none⟩ (.int .i64 v)) ∧ w.frozen? ⟨g, i * 6 + 3, none⟩ = false := by
  obtain ⟨cur, b1, b2, b3, b4, b5, b6, b7⟩ := own_block h
  obtain ⟨s1, s2⟩ := Fl_split kC_len l i x hx
  have s3 := Fl_set kC_len l i x ⟨x.seq, x.sent, x.cnt, v, x.frm, x.body⟩ hx
  have hset : Fk (l.set i ⟨x.seq, x.sent, x.cnt, v, x.frm, x.body⟩) = (Fk l).set (i * 6 + 3) (.int .i64 v) := by
    show Fl kC _ = (Fl kC l).set (i * 6 + 3) (.int .i64 v)
    rw [s3, s1, List.set_append_right _ _ (by rw [s2]; omega), s2, show i * 6 + 3 - i * 6 = 3 by omega, List.set_append_left _ _ (by rw [kC_len]; decide)]
    rfl
  rw [setCell_eq_setRow w g (i * 6 + 3) _ _ (0, 0) _ b2]
  refine ⟨?_, ?_, frozen_of_row w g _ _ _ b2⟩
  · refine (own_splice h _ _ (fun cur' hc' => ?_) (by rw [hset, List.length_set])).1
    rw [b2] at hc'
    simp only [Option.some.injEq, Obj.cells.injEq, and_true, true_and] at hc'
    subst hc'
    refine ⟨by simp, fun ht => ?_⟩
    rw [Array.toList_setIfInBounds, List.take_set, ht, hset]
  · exact (Fr.refl (fun k => k = g) w).setRow (b := g) (.inl rfl) _

set_option maxHeartbeats 4000000 in
theorem Delete_any (w : World) (g : G) (ka : Option Addr) (kc : Nat) (ma : Option Addr) (mc : Nat) (h : Gl w g ka kc ma mc) (hk : g.kept.length ≤ 100000000) (hm : g.marks.length ≤ 1000000000) (now seq cnt : Int) (g' : G) (hg' : delG g now seq cnt = g') (E' : Int) (hE' : delE g now seq cnt = E') :
    Calls Tryd.prog 27 #[.agg (gC g ka kc ma mc), .int .i64 now, .int .i64 seq, .int .i64 cnt] w fun e w' => ∃ ka' kc' ma' mc', e = .returned (.tuple #[.agg (gC g' ka' kc' ma' mc'), .int .i64 E']) ∧ Gl w' g' ka' kc' ma' mc' ∧ Below w.heap.size w w' := by
  have HG' := mkH hg'
  have HE' := mkH hE'
  clear hg' hE'
  have HL := mkH h
  clear h
  obtain ⟨nx, kp, mk, at'⟩ := g
  simp only [gC] at hk hm ⊢
  have HA := mkH (((Below.refl w.heap.size w).alloc (Nat.le_refl _) (.cells #[Value.int .i64 nx, .slice ka kp.length kc, .slice ma mk.length mc, .string at'] 25)).alloc (by simp) (.cells #[.int .i64 0, .slice none 0 0, .slice none 0 0, .string ⟨#[]⟩] 25))
  have HC0 := mkH ((Bx.new w #[Value.int .i64 nx, .slice ka kp.length kc, .slice ma mk.length mc, .string at'] 25).alloc (.cells #[.int .i64 0, .slice none 0 0, .slice none 0 0, .string ⟨#[]⟩] 25))
  have HC1 := mkH (Bx.new1 w (.cells #[Value.int .i64 nx, .slice ka kp.length kc, .slice ma mk.length mc, .string at'] 25) #[.int .i64 0, .slice none 0 0, .slice none 0 0, .string ⟨#[]⟩] 25)
  have HSZ : Hid (((w.alloc (.cells #[Value.int .i64 nx, .slice ka kp.length kc, .slice ma mk.length mc, .string at'] 25)).alloc (.cells #[.int .i64 0, .slice none 0 0, .slice none 0 0, .string ⟨#[]⟩] 25)).heap.size = w.heap.size + 2) := by unfold Hid; simp
  have hab := about_in ⟨nx, kp, mk, at'⟩ now seq cnt
  obtain ⟨p, E, hpe⟩ : ∃ p E, about ⟨nx, kp, mk, at'⟩ now seq cnt = (p, E) := ⟨_, _, rfl⟩
  rw [hpe] at hab
  simp only at hab
  have HPE := mkH hpe
  clear hpe
  go_enter Tryd.func27, Tryd.ntmps27
  go_wp2_with fail
  generalize (w.alloc (.cells #[Value.int .i64 nx, .slice ka kp.length kc, .slice ma mk.length mc, .string at'] 25)).alloc (.cells #[.int .i64 0, .slice none 0 0, .slice none 0 0, .string ⟨#[]⟩] 25) = w0 at *
  obtain ⟨R, hR⟩ : ∃ R, w.heap.size + 1 = R := ⟨_, rfl⟩
  rw [hR] at HC1 ⊢
  have h3 := HSZ.out
  have r1 : w.heap.size < R := by omega
  have r2 : R < w0.heap.size := by omega
  have hneR : ¬ w.heap.size = R := by omega
  clear hR
  have HD := mkH (delivery_any w0 ⟨nx, kp, mk, at'⟩ ka kc ma mc (HL.out.below HA.out) hk now seq cnt p E HPE.out)
  simp only [gC] at HD
  refine HD.out.mono ?_
  rintro e w1 ⟨rfl, hb1⟩
  have HB1 : Hid (Below w.heap.size w w1) := HA.out.trans (hb1.mono HA.out.size)
  have HC01 := mkH (HC0.out.bel hb1)
  have HC11 := mkH (HC1.out.bel hb1)
  obtain ⟨m0, m1, m2, m3, -⟩ := HC01.out.four
  obtain ⟨d0, d1, d2, d3, f0, f1, f2, f3⟩ := HC11.out.four
  have hs1 := hb1.size
  clear hb1 HC0 HC1 HA HD
  go_wp2_with fail
  refine (copyOf_any w1 ⟨nx, kp, mk, at'⟩ ka kc ma mc (HL.out.below HB1.out) (by show kp.length ≤ _; omega) hm).mono ?_
  rintro e w2 ⟨ka1, kc1, ma1, mc1, rfl, hg2, hb2⟩
  simp only [gC]
  have hal : Below w2.heap.size w2 (w2.alloc (.cells #[Value.int .i64 nx, .slice ka1 kp.length kc1, .slice ma1 mk.length mc1, .string at'] 25)) := (Below.refl _ w2).alloc (Nat.le_refl _) _
  have hs2 := hb2.size
  have HO := mkH (Bx.new w2 #[Value.int .i64 nx, .slice ka1 kp.length kc1, .slice ma1 mk.length mc1, .string at'] 25)
  have HG3 := mkH (hg2.below hal)
  have HR3 := mkH ((HC11.out.bel hb2).bel hal)
  have HB3 : Hid (Below w.heap.size w (w2.alloc (.cells #[Value.int .i64 nx, .slice ka1 kp.length kc1, .slice ma1 mk.length mc1, .string at'] 25))) := (HB1.out.trans (hb2.mono HB1.out.size)).alloc (by have := HB1.out.size; omega) _
  have HS3 : Hid ((w2.alloc (.cells #[Value.int .i64 nx, .slice ka1 kp.length kc1, .slice ma1 mk.length mc1, .string at'] 25)).heap.size = w2.heap.size + 1) := by unfold Hid; simp
  have n1 : ¬ w2.heap.size = R := by omega
  have n2 : ¬ R = w2.heap.size := by omega
  obtain ⟨e0, e1, e2, e3, g0, g1, g2, g3⟩ := HR3.out.four
  clear hg2 hb2 hal HC01 HC11 m0 m1 m2 m3 d0 d1 d2 d3 f0 f1 f2 f3
  rcases hab with ⟨rfl, hpl⟩ | rfl | hEE
  · have q1 : (⟨nx, kp.eraseIdx p, mk, at'⟩ : G) = g' := by rw [← HG'.out]; unfold delG; rw [HPE.out]; rfl
    have q2 : E' = 0 := by rw [← HE'.out]; unfold delE; rw [HPE.out]; rfl
    obtain ⟨L, hL⟩ : ∃ L, kp.eraseIdx p = L := ⟨_, rfl⟩
    rw [hL] at q1
    subst q1 q2
    have hLL : kp.take p ++ kp.drop (p + 1) = L := by rw [← hL, List.eraseIdx_eq_take_drop_succ]
    have HLL := mkH hLL
    have hkle := own_le HG3.out.k
    have hkcap := own_cap HG3.out.k
    simp only at hpl hkle hkcap
    clear hL hLL HG' HE' HPE
    go_wp2_with fail
    refine (apart_any _ ka1 kp.length kc1 p (by omega) hkle hkcap).mono ?_
    rintro e w4 ⟨rfl, hb4⟩
    have hrA : RowK w4 ka1 (kp.take p) := (RowS.take (RowS.own kC_len HG3.out.k) p).below hb4
    have hrB : RowK w4 (ad ka1 kp.length p 6) (kp.drop p) := (RowS.drop (RowS.own kC_len HG3.out.k) kp.length p (Nat.le_refl _)).below hb4
    have HNE : Hid (∀ a, ka1 = some a → a.block ≠ R ∧ a.block ≠ w2.heap.size) := fun a ha => ⟨own_ne HG3.out.k HR3.out (own_addr HG3.out.k ha) (by decide), own_ne HG3.out.k HO.out (own_addr HG3.out.k ha) (by decide)⟩
    have HO4 := mkH (HO.out.bel hb4)
    have HR4 := mkH (HR3.out.bel hb4)
    have HM4 := mkH (own_below HG3.out.m hb4)
    have HB4 : Hid (Below w.heap.size w w4) := HB3.out.trans (hb4.mono HB3.out.size)
    obtain ⟨lp, hlp⟩ : ∃ lp, kp.length - p = lp := ⟨_, rfl⟩
    have hlp1 : 1 ≤ lp := by omega
    have hlp2 : lp + p ≤ 100000000 := by omega
    have hdl : (kp.drop p).length = lp := by rw [List.length_drop]; exact hlp
    rw [hlp]
    generalize ad ka1 kp.length p 6 = aq at hrB ⊢
    have HRA := mkH hrA
    have HRB := mkH hrB
    have HDL := mkH hdl
    have HLP := mkH hlp
    clear hb4 hrA hrB hdl hlp HO HR3 HG3 HB3 e0 e1 e2 e3 g0 g1 g2 g3
    go_wp2_with fail
    have hlc : (lp : Int) ≤ 9223372036854775807 := by omega
    refine (apart_any _ aq lp lp 1 hlp1 (Nat.le_refl _) (by omega)).mono ?_
    rintro e w5 ⟨rfl, hb5⟩
    have hrC : RowK w5 (ad aq lp 1 6) (kp.drop (p + 1)) := by
      have := (RowS.drop HRB.out lp 1 (by rw [HDL.out]; exact Nat.le_refl _)).below hb5
      rw [List.drop_drop] at this
      exact this
    have hcl : (kp.drop (p + 1)).length = lp - 1 := by rw [List.length_drop]; have := HLP.out; omega
    have htl : (kp.take p).length = p := by rw [List.length_take]; omega
    have hLen : p + (lp - 1) = L.length := by rw [← HLL.out, List.length_append, hcl, htl]
    generalize ad aq lp 1 6 = ar at hrC ⊢
    obtain ⟨l1, hl1⟩ : ∃ l1, kp.take p = l1 := ⟨_, rfl⟩
    obtain ⟨l2, hl2⟩ : ∃ l2, kp.drop (p + 1) = l2 := ⟨_, rfl⟩
    rw [hl2] at hrC hcl
    rw [hl1] at htl
    have hrA5 := HRA.out.below hb5
    rw [hl1] at hrA5
    obtain ⟨a6, c6, w6, hap, hr6, hc6, hc62, hb6, hw6⟩ := run_append_full (P := Tryd.prog) kC_len kC_one (by decide) w5 22 22 22 61 _ 56 Tryd.underlying22 infoK rfl ka1 l1 l2 hrA5 _ (srcK hrC (lp - 1)) (by rw [htl, hcl]; omega) (by rw [htl, hcl]; omega)
    rw [htl, hcl, hLen] at hap
    rw [htl, hcl, hLen] at hc6
    rw [show l1 ++ l2 = L by rw [← hl1, ← hl2]; exact HLL.out] at hr6
    have hb46 := hb5.trans (hb6.mono hb5.size)
    have HAP := mkH hap
    have HO6 := mkH (HO4.out.bel hb46)
    have HR6 := mkH (HR4.out.bel hb46)
    have HM6 := mkH (own_below HM4.out hb46)
    have HB6 : Hid (Below w.heap.size w w6) := HB4.out.trans (hb46.mono HB4.out.size)
    have HK6 := mkH hr6
    obtain ⟨d0, d1, d2, d3, f0, f1, f2, f3⟩ := HO6.out.four
    obtain ⟨e0, e1, e2, e3, g0, g1, g2, g3⟩ := HR6.out.four
    have HC6 := mkH (And.intro hc6 hc62)
    have HN6 : Hid (∀ a, a6 = some a → a.block ≠ R ∧ a.block ≠ w2.heap.size) := fun a ha => by
      rcases hw6 with h | h
      · exact HNE.out a (by rw [← h]; exact ha)
      · rw [h] at ha; cases ha; have h1 := HO4.out.lt; have h2 := HR4.out.lt; have h3 := hb5.size; simp only; omega
    clear hb5 hrC hcl htl hLen hl1 hl2 hrA5 hap hr6 hc6 hc62 hb6 hb46 hw6 HRA HRB HDL HLP HO4 HR4 HM4 HB4
    go_wp2_with (at_builtin; refine Lib.wpList_append_run _ rfl (.tmp 44) (.tmp 45) 22 22 rfl _ _ rfl rfl _ _ HAP.out ?_)
    have hO7 := HO6.out.s1 (.slice a6 L.length c6)
    have hF7 := HO6.out.frset 1 (.slice a6 L.length c6)
    have hR7 := HR6.out.fr hF7 (by omega)
    generalize w6.setCell ⟨w2.heap.size, 1, none⟩ (.slice a6 L.length c6) = w7 at *
    obtain ⟨hR8, hF8⟩ := hR7.sAll (v0 := .int .i64 nx) (v1 := .slice a6 L.length c6) (v2 := .slice ma1 mk.length mc1) (v3 := .string at')
    generalize (((w7.setCell ⟨R, 0, none⟩ (.int .i64 nx)).setCell ⟨R, 1, none⟩ (.slice a6 L.length c6)).setCell ⟨R, 2, none⟩ (.slice ma1 mk.length mc1)).setCell ⟨R, 3, none⟩ (.string at') = w8 at *
    refine bodyPost_ret (res_ct rfl _ _ _ rfl rfl (loadG hR8)) rfl ⟨a6, c6, ma1, mc1, rfl, ⟨?_, ?_, HC6.out.1, own_le HM6.out, HC6.out.2, own_cap HM6.out⟩, ?_⟩
    · exact RowS.fr (RowS.fr HK6.out hF7 (fun a ha hk => (HN6.out a ha).2 hk)) hF8 (fun a ha hk => (HN6.out a ha).1 hk)
    · have h1 := own_fr HM6.out hF7 (fun k hk hk2 => own_ne HM6.out HO6.out hk (by decide) hk2)
      exact RowS.own mC_len (own_fr h1 hF8 (fun k hk hk2 => own_ne h1 hR7 hk (by decide) hk2))
    · exact below_fr (below_fr HB6.out hF7 (by intro k hk; omega) (Nat.le_refl _)) hF8 (by intro k hk; omega) (Nat.le_refl _)
  · have q1 : (⟨nx, kp, mk, at'⟩ : G) = g' := by rw [← HG'.out]; unfold delG; rw [HPE.out]; rfl
    have q2 : E' = 0 := by rw [← HE'.out]; unfold delE; rw [HPE.out]; rfl
    subst q1 q2
    clear HG' HE' HPE
    go_wp2
    generalize w2.alloc (.cells #[Value.int .i64 nx, .slice ka1 kp.length kc1, .slice ma1 mk.length mc1, .string at'] 25) = w3 at *
    obtain ⟨hR8, hF8⟩ := HR3.out.sAll (v0 := .int .i64 nx) (v1 := .slice ka1 kp.length kc1) (v2 := .slice ma1 mk.length mc1) (v3 := .string at')
    generalize (((w3.setCell ⟨R, 0, none⟩ (.int .i64 nx)).setCell ⟨R, 1, none⟩ (.slice ka1 kp.length kc1)).setCell ⟨R, 2, none⟩ (.slice ma1 mk.length mc1)).setCell ⟨R, 3, none⟩ (.string at') = w8 at *
    refine bodyPost_ret (res_ct rfl _ _ _ rfl rfl (loadG hR8)) rfl ⟨ka1, kc1, ma1, mc1, rfl, Go'.gl (B := 0) ⟨?_, ?_⟩, ?_⟩
    · exact own_mono (own_fr HG3.out.k hF8 (fun k hk hk2 => own_ne HG3.out.k HR3.out hk (by decide) hk2)) (by omega)
    · exact own_mono (own_fr HG3.out.m hF8 (fun k hk hk2 => own_ne HG3.out.m HR3.out hk (by decide) hk2)) (by omega)
    · exact below_fr HB3.out hF8 (by intro k hk; omega) (Nat.le_refl _)
  · have hE0 : ¬ E = 0 := by omega
    have hE8 : ¬ E = 8 := by omega
    have t0 : (E == 0) = false := by simpa using hE0
    have t8 : (E == 8) = false := by simpa using hE8
    have q1 : none' = g' := by rw [← HG'.out]; unfold delG; rw [HPE.out]; simp only [if_neg hE0, if_neg hE8]
    have q2 : E' = E := by rw [← HE'.out]; unfold delE; rw [HPE.out]; simp only [if_neg hE8]
    subst q1 q2
    unfold none' at *
    clear HG' HE' HPE hEE
    go_wp2
    generalize w2.alloc (.cells #[Value.int .i64 nx, .slice ka1 kp.length kc1, .slice ma1 mk.length mc1, .string at'] 25) = wz at *
    have HRz := HR3
    have HBz := HB3
    obtain ⟨hR7, hF7⟩ := HRz.out.sAll (v0 := .int .i64 0) (v1 := .slice none 0 0) (v2 := .slice none 0 0) (v3 := .string ⟨#[]⟩)
    generalize (((wz.setCell ⟨R, 0, none⟩ (.int .i64 0)).setCell ⟨R, 1, none⟩ (.slice none 0 0)).setCell ⟨R, 2, none⟩ (.slice none 0 0)).setCell ⟨R, 3, none⟩ (.string ⟨#[]⟩) = w7 at *
    refine bodyPost_ret (res_ct rfl _ _ _ rfl rfl (loadG hR7)) rfl ⟨none, 0, none, 0, rfl, ⟨RowS.nil _ _, RowS.nil _ _, Nat.le_refl _, Nat.le_refl _, by omega, by omega⟩, ?_⟩
    exact below_fr HBz.out hF7 (by intro k hk; omega) (Nat.le_refl _)

set_option maxHeartbeats 4000000 in
theorem Change_any (w : World) (g : G) (ka : Option Addr) (kc : Nat) (ma : Option Addr) (mc : Nat) (h : Gl w g ka kc ma mc) (hk : g.kept.length ≤ 100000000) (hm : g.marks.length ≤ 1000000000) (now seq cnt secs : Int) (hn : Sm now) (hs : Sm secs) (g' : G) (hg' : chgG g now seq cnt secs = g') (E' : Int) (hE' : chgE g now seq cnt = E') :
    Calls Tryd.prog 28 #[.agg (gC g ka kc ma mc), .int .i64 now, .int .i64 seq, .int .i64 cnt, .int .i64 secs] w fun e w' => ∃ ka' kc' ma' mc', e = .returned (.tuple #[.agg (gC g' ka' kc' ma' mc'), .int .i64 E']) ∧ Gl w' g' ka' kc' ma' mc' ∧ Below w.heap.size w w' := by
  have HG' := mkH hg'
  have HE' := mkH hE'
  have hb1 : -9223372036854775808 ≤ now + secs := by unfold Sm at hn hs; omega
  have hb2 : now + secs ≤ 9223372036854775807 := by unfold Sm at hn hs; omega
  clear hg' hE' hn hs
  have HL := mkH h
  clear h
  obtain ⟨nx, kp, mk, at'⟩ := g
  simp only [gC] at hk hm ⊢
  have HA := mkH (((Below.refl w.heap.size w).alloc (Nat.le_refl _) (.cells #[Value.int .i64 nx, .slice ka kp.length kc, .slice ma mk.length mc, .string at'] 25)).alloc (by simp) (.cells #[.int .i64 0, .slice none 0 0, .slice none 0 0, .string ⟨#[]⟩] 25))
  have HC0 := mkH ((Bx.new w #[Value.int .i64 nx, .slice ka kp.length kc, .slice ma mk.length mc, .string at'] 25).alloc (.cells #[.int .i64 0, .slice none 0 0, .slice none 0 0, .string ⟨#[]⟩] 25))
  have HC1 := mkH (Bx.new1 w (.cells #[Value.int .i64 nx, .slice ka kp.length kc, .slice ma mk.length mc, .string at'] 25) #[.int .i64 0, .slice none 0 0, .slice none 0 0, .string ⟨#[]⟩] 25)
  have HSZ : Hid (((w.alloc (.cells #[Value.int .i64 nx, .slice ka kp.length kc, .slice ma mk.length mc, .string at'] 25)).alloc (.cells #[.int .i64 0, .slice none 0 0, .slice none 0 0, .string ⟨#[]⟩] 25)).heap.size = w.heap.size + 2) := by unfold Hid; simp
  have hab := about_in ⟨nx, kp, mk, at'⟩ now seq cnt
  obtain ⟨p, E, hpe⟩ : ∃ p E, about ⟨nx, kp, mk, at'⟩ now seq cnt = (p, E) := ⟨_, _, rfl⟩
  rw [hpe] at hab
  simp only at hab
  have HPE := mkH hpe
  clear hpe
  go_enter Tryd.func28, Tryd.ntmps28
  go_wp2_with fail
  generalize (w.alloc (.cells #[Value.int .i64 nx, .slice ka kp.length kc, .slice ma mk.length mc, .string at'] 25)).alloc (.cells #[.int .i64 0, .slice none 0 0, .slice none 0 0, .string ⟨#[]⟩] 25) = w0 at *
  obtain ⟨R, hR⟩ : ∃ R, w.heap.size + 1 = R := ⟨_, rfl⟩
  rw [hR] at HC1 ⊢
  have h3 := HSZ.out
  have r1 : w.heap.size < R := by omega
  have r2 : R < w0.heap.size := by omega
  have hneR : ¬ w.heap.size = R := by omega
  clear hR
  have HD := mkH (delivery_any w0 ⟨nx, kp, mk, at'⟩ ka kc ma mc (HL.out.below HA.out) hk now seq cnt p E HPE.out)
  simp only [gC] at HD
  refine HD.out.mono ?_
  rintro e w1 ⟨rfl, hb1⟩
  have HB1 : Hid (Below w.heap.size w w1) := HA.out.trans (hb1.mono HA.out.size)
  have HC01 := mkH (HC0.out.bel hb1)
  have HC11 := mkH (HC1.out.bel hb1)
  obtain ⟨m0, m1, m2, m3, -⟩ := HC01.out.four
  obtain ⟨d0, d1, d2, d3, f0, f1, f2, f3⟩ := HC11.out.four
  have hs1 := hb1.size
  clear hb1 HC0 HC1 HA HD
  rcases hab with ⟨rfl, hpl⟩ | hEE
  · obtain ⟨x, hx⟩ := some_of (l := kp) (i := p) hpl
    have q1 : (⟨nx, kp.set p ⟨x.seq, x.sent, x.cnt, now + secs, x.frm, x.body⟩, mk, at'⟩ : G) = g' := by
      rw [← HG'.out]; unfold chgG; rw [HPE.out]
      simp only [if_true]
      unfold setTill
      rw [hx]
    have q2 : E' = 0 := by rw [← HE'.out]; unfold chgE; rw [HPE.out]
    obtain ⟨L, hL⟩ : ∃ L, kp.set p ⟨x.seq, x.sent, x.cnt, now + secs, x.frm, x.body⟩ = L := ⟨_, rfl⟩
    rw [hL] at q1
    have hLl : kp.length = L.length := by rw [← hL, List.length_set]
    subst q1 q2
    have HLL := mkH hL
    have HLn := mkH hLl
    have HX := mkH hx
    clear hL hLl hx HG' HE' HPE
    go_wp2_with fail
    refine (copyOf_any w1 ⟨nx, kp, mk, at'⟩ ka kc ma mc (HL.out.below HB1.out) (by show kp.length ≤ _; omega) hm).mono ?_
    rintro e w2 ⟨ka1, kc1, ma1, mc1, rfl, hg2, hb2⟩
    simp only [gC]
    have hal : Below w2.heap.size w2 (w2.alloc (.cells #[Value.int .i64 nx, .slice ka1 kp.length kc1, .slice ma1 mk.length mc1, .string at'] 25)) := (Below.refl _ w2).alloc (Nat.le_refl _) _
    have hs2 := hb2.size
    have HO := mkH (Bx.new w2 #[Value.int .i64 nx, .slice ka1 kp.length kc1, .slice ma1 mk.length mc1, .string at'] 25)
    have HG3 := mkH (hg2.below hal)
    have HR3 := mkH ((HC11.out.bel hb2).bel hal)
    have HB3 : Hid (Below w.heap.size w (w2.alloc (.cells #[Value.int .i64 nx, .slice ka1 kp.length kc1, .slice ma1 mk.length mc1, .string at'] 25))) := (HB1.out.trans (hb2.mono HB1.out.size)).alloc (by have := HB1.out.size; omega) _
    have HS3 : Hid ((w2.alloc (.cells #[Value.int .i64 nx, .slice ka1 kp.length kc1, .slice ma1 mk.length mc1, .string at'] 25)).heap.size = w2.heap.size + 1) := by unfold Hid; simp
    have n1 : ¬ w2.heap.size = R := by omega
    have n2 : ¬ R = w2.heap.size := by omega
    obtain ⟨e0, e1, e2, e3, g0, g1, g2, g3⟩ := HR3.out.four
    clear hg2 hb2 hal HC01 HC11 m0 m1 m2 m3 d0 d1 d2 d3 f0 f1 f2 f3
    generalize hw3 : w2.alloc (.cells #[Value.int .i64 nx, .slice ka1 kp.length kc1, .slice ma1 mk.length mc1, .string at'] 25) = w3 at *
    obtain ⟨gk, hgk⟩ := own_some HG3.out.k (show 0 < kp.length by omega)
    subst hgk
    obtain ⟨b, off, hbo, z0, z1, z2, z3, z4, z5⟩ := atK (RowS.own kC_len HG3.out.k) HX.out
    simp only [Option.some.injEq, Addr.mk.injEq] at hbo
    obtain ⟨rfl, rfl, -⟩ := hbo
    simp only [Nat.zero_add] at z0 z1 z2 z3 z4 z5
    obtain ⟨ho4, hf4, hz4⟩ := own_cell HG3.out.k HX.out (now + secs)
    have nk1 : ¬ gk = R := fun hh => own_ne HG3.out.k HR3.out (k := gk) rfl (by decide) hh
    have nk2 : ¬ gk = w2.heap.size := fun hh => own_ne HG3.out.k HO.out (k := gk) rfl (by decide) hh
    have nk3 : ¬ R = gk := fun hh => nk1 hh.symm
    have nk4 : ¬ w2.heap.size = gk := fun hh => nk2 hh.symm
    obtain ⟨d0, d1, d2, d3, f0, f1, f2, f3⟩ := HO.out.four
    have hpz : (p : Int) < (kp.length : Int) := by omega
    have HO4 := mkH ho4
    have HF4 := mkH hf4
    clear ho4 hf4
    subst hw3
    go_wp2
    have hR4 := HR3.out.fr HF4.out (fun hh => nk3 hh)
    have hM4 := own_fr HG3.out.m HF4.out (fun k hk hk2 => own_kinds HG3.out.k HG3.out.m (by decide) k (by subst hk2; rfl) hk)
    have HB4 := mkH (below_fr HB3.out HF4.out (fun k hk => by have := (HG3.out.k.lt gk rfl).1; have := HB1.out.size; omega) (Nat.le_refl _))
    generalize (w2.alloc (.cells #[Value.int .i64 nx, .slice (some ⟨gk, 0, none⟩) kp.length kc1, .slice ma1 mk.length mc1, .string at'] 25)).setCell ⟨gk, p * 6 + 3, none⟩ (.int .i64 (now + secs)) = w4 at *
    obtain ⟨hR8, hF8⟩ := hR4.sAll (v0 := .int .i64 nx) (v1 := .slice (some ⟨gk, 0, none⟩) kp.length kc1) (v2 := .slice ma1 mk.length mc1) (v3 := .string at')
    generalize (((w4.setCell ⟨R, 0, none⟩ (.int .i64 nx)).setCell ⟨R, 1, none⟩ (.slice (some ⟨gk, 0, none⟩) kp.length kc1)).setCell ⟨R, 2, none⟩ (.slice ma1 mk.length mc1)).setCell ⟨R, 3, none⟩ (.string at') = w8 at *
    refine bodyPost_ret (res_ct rfl _ _ _ rfl rfl (loadG hR8)) rfl ⟨some ⟨gk, 0, none⟩, kc1, ma1, mc1, by rw [HLn.out]; rfl, Go'.gl (B := 0) ⟨?_, ?_⟩, ?_⟩
    · have h1 := HO4.out
      rw [HLL.out] at h1
      rw [HLn.out] at h1
      exact own_mono (own_fr h1 hF8 (fun k hk hk2 => own_ne h1 hR4 hk (by decide) hk2)) (by omega)
    · exact own_mono (own_fr hM4 hF8 (fun k hk hk2 => own_ne hM4 hR4 hk (by decide) hk2)) (by omega)
    · exact below_fr HB4.out hF8 (by intro k hk; omega) (Nat.le_refl _)
  · have hE0 : ¬ E = 0 := by omega
    have t0 : (E == 0) = false := by simpa using hE0
    have t1 : (E != 0) = true := by simp [bne, t0]
    have q1 : none' = g' := by rw [← HG'.out]; unfold chgG; rw [HPE.out]; simp only [if_neg hE0]
    have q2 : E' = E := by rw [← HE'.out]; unfold chgE; rw [HPE.out]
    subst q1 q2
    unfold none' at *
    clear HG' HE' HPE hEE
    go_wp2
    generalize w1 = wz at *
    have HRz := HC11
    have HBz := HB1
    obtain ⟨hR7, hF7⟩ := HRz.out.sAll (v0 := .int .i64 0) (v1 := .slice none 0 0) (v2 := .slice none 0 0) (v3 := .string ⟨#[]⟩)
    generalize (((wz.setCell ⟨R, 0, none⟩ (.int .i64 0)).setCell ⟨R, 1, none⟩ (.slice none 0 0)).setCell ⟨R, 2, none⟩ (.slice none 0 0)).setCell ⟨R, 3, none⟩ (.string ⟨#[]⟩) = w7 at *
    refine bodyPost_ret (res_ct rfl _ _ _ rfl rfl (loadG hR7)) rfl ⟨none, 0, none, 0, rfl, ⟨RowS.nil _ _, RowS.nil _ _, Nat.le_refl _, Nat.le_refl _, by omega, by omega⟩, ?_⟩
    exact below_fr HBz.out hF7 (by intro k hk; omega) (Nat.le_refl _)
end Go.Proofs.YtcpmaddleleblaaDoor.Gj
