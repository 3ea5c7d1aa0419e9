/-
  SeRa SeMg SeSh SeI SeK, joined by mrg.py.
-/
import Derived.Test.YtenkgpfeifflnaaGreatMqD
import Derived.Test.YtenkgpfeifflnaaGreatSeF
import Derived.Shelf.SlIterI.Nil
import Derived.Shelf.SlIterI.Sorted
import Derived.Shelf.SortM.Plain
import Derived.Shelf.SortM.SortNone
import Derived.Test.YtenkgpfeifflnaaGreatRows
import Derived.Test.YtenkgpfeifflnaaGreatSeD
import Derived.RangeFuncWrites
import Derived.RangeFuncNested
import Derived.Shelf.RegionOpen

namespace Go.Proofs.YtenkgpfeifflnaaGreat.Sra
open Go.RowKit Kt Pl Wi Wk Wa Sm Sa Sb Sc Sd Sx Srd Gv
open Dk (Fr block_lt)
open At (RowT)
set_option linter.unusedVariables false
set_option linter.unusedSimpArgs false
set_option maxRecDepth 20000

theorem readE_snoc {a : List Bs} {b : Bs} {es : List E} {e : E} (h : readE a = some es) (hb : rdE b = some e) : readE (a ++ [b]) = some (es ++ [e]) := by
  induction a generalizing es with
  | nil => simp only [readE, Option.some.injEq] at h; subst h; simp [readE, hb]
  | cons q a ih =>
    rw [readE] at h
    rw [List.cons_append, readE]
    cases hq : rdE q with
    | none => rw [hq] at h; cases h
    | some eq =>
      rw [hq] at h
      simp only at h ⊢
      cases ha : readE a with
      | none => rw [ha] at h; cases h
      | some ea =>
        rw [ha] at h
        simp only [Option.some.injEq] at h
        subst h
        rw [ih ha]
        rfl
theorem readE_none : ∀ {l : List Bs} {k : Nat} {b : Bs}, l[k]? = some b → rdE b = none → readE l = none
  | [], k, b, h, _ => by simp at h
  | q :: l, 0, b, h, hb => by simp at h; subst h; rw [readE, hb]
  | q :: l, k + 1, b, h, hb => by
    rw [readE]
    cases rdE q with
    | none => rfl
    | some e => simp only; rw [readE_none (by simpa using h) hb]
/-- A reply's lists lie apart from a row. -/
def Ap (v : Value) (x : X) : Prop := ∀ g, v.ownBlock = some g → (0 < x.p.r.got.length → ∀ a, x.ga = some a → a.block ≠ g) ∧ (0 < x.p.r.data.length → ∀ a, x.da = some a → a.block ≠ g) ∧ (0 < x.p.r.about.length → ∀ a, x.ra = some a → a.block ≠ g)
theorem rpM_ap {w w' : World} {v : Value} {x : X} (h : RpM w x.p.r x.ga x.da x.ra) (hf : w.grownBy w' v.ownBlock) (ha : Ap v x) : RpM w' x.p.r x.ga x.da x.ra := by
  have hF : Fr (fun k => v.ownBlock = some k) w w' := ⟨hf.os, hf.tape, hf.output, hf.size, fun k hk hn => hf.block k hk (fun e => hn e.symm)⟩
  refine ⟨fun hl => rowS_fr h.got hF (fun a u _ ⟨a', e, hb⟩ hq => (ha _ hq).1 hl a' e hb) hl, fun hl => rowT_fr h.data hF (fun a u _ ⟨a', e, hb⟩ hq => (ha _ hq).2.1 hl a' e hb) hl, fun hl => rowS_fr h.about hF (fun a u _ ⟨a', e, hb⟩ hq => (ha _ hq).2.2 hl a' e hb) hl⟩
theorem rpM_lt {w : World} {x : X} (h : RpM w x.p.r x.ga x.da x.ra) : (0 < x.p.r.got.length → ∀ a, x.ga = some a → a.block < w.heap.size) ∧ (0 < x.p.r.data.length → ∀ a, x.da = some a → a.block < w.heap.size) ∧ (0 < x.p.r.about.length → ∀ a, x.ra = some a → a.block < w.heap.size) := by
  refine ⟨fun hl => h.got.block hl (fun y => by rw [gC_len]; decide), fun hl a e => ?_, fun hl => h.about.block hl (fun y => by rw [rC_len]; decide)⟩
  obtain ⟨b, off, e', hc⟩ := h.data hl
  rw [e] at e'
  cases e'
  exact World.block_lt_of_cell? w _ (hc 0 hl)
theorem ap_new {w : World} {v v' : Value} {x : X} (h : RpM w x.p.r x.ga x.da x.ra) (ha : Ap v x) (hv : v'.ownBlock = v.ownBlock ∨ v'.ownBlock = some w.heap.size) : Ap v' x := by
  intro g hg
  rcases hv with e | e
  · rw [e] at hg; exact ha g hg
  · rw [e] at hg
    cases hg
    obtain ⟨h1, h2, h3⟩ := rpM_lt h
    exact ⟨fun hl a e => Nat.ne_of_lt (h1 hl a e), fun hl a e => Nat.ne_of_lt (h2 hl a e), fun hl a e => Nat.ne_of_lt (h3 hl a e)⟩
theorem ap_far {v : Value} {x : X} {B : Nat} (hf : Far (fun k => B ≤ k) x.ga x.da x.ra) (hv : ∀ g, v.ownBlock = some g → g < B) : Ap v x := fun g hg => by
  have := hv g hg
  exact ⟨fun _ a e => (by have := hf.1 a e; omega), fun _ a e => (by have := hf.2.1 a e; omega), fun _ a e => (by have := hf.2.2 a e; omega)⟩
theorem own_lt {w : World} {base e size n cap : Nat} {ao : Option Addr} {xs : List Value} (h : w.ownsRow base e size (.slice ao n cap) n xs) : ∀ g, (Value.slice ao n cap).ownBlock = some g → g < w.heap.size := by
  intro r hr
  rcases h.2 with ⟨e1, e2⟩ | ⟨g, c, cur, e1, h1, h2, _⟩
  · rw [e1] at hr; simp [Value.ownBlock] at hr
  · rw [e1] at hr
    simp [Value.ownBlock] at hr
    have := block_lt h2
    omega
theorem info_N : (Tryz.prog.info? 77).map (fun i => (i.zero, i.size, i.bytes)) = some (some (.agg zN), 8, 112) := by kernel_rfl
abbrev RowN := RowS 8 nC
/-- What readAll hands back. -/
def RaP (w : World) (l : List Bs) (e : Ending) (w' : World) : Prop := Below w.heap.size w w' ∧
  ((∃ (xs : List X) (ra : Option Addr) (rc : Nat), readE l = some (xs.map X.p) ∧ e = .returned (.tuple #[.slice ra xs.length rc, .int .i64 0]) ∧ RowN w' ra xs ∧ ∀ x ∈ xs, RpM w' x.p.r x.ga x.da x.ra ∧ Cnt x.p.r) ∨ (readE l = none ∧ e = .returned (.tuple #[.slice none 0 0, .int .i64 2])))

set_option maxHeartbeats 4000000 in
theorem readAll_any (w : World) (ao : Option Addr) (cap : Nat) (l : List Bs) (hr : RowT w ao l) (hl : l.length ≤ 1000) (ht : ∀ t ∈ l, t.length ≤ 500000000) :
    Calls Tryz.prog 32 #[.slice ao l.length cap] w fun e w' => RaP w l e w' := by
  have HR := mkH hr
  have HT := mkH ht
  clear hr ht
  go_enter Tryz.func32, Tryz.ntmps32
  go_wp2_with fail
  go_loopw [4, 11] (fun v i wr => ∃ (xs : List X) (va : Option Addr) (vc : Nat), xs.length ≤ l.length ∧ i = .int .i64 (xs.length : Int) ∧ v = .slice va xs.length vc ∧ Hid (readE (l.take xs.length) = some (xs.map X.p)) ∧ Hid (wr.ownsRow w.heap.size 77 8 (.slice va xs.length vc) xs.length (Fl nC xs)) ∧ Hid (∀ x ∈ xs, RpM wr x.p.r x.ga x.da x.ra ∧ Cnt x.p.r ∧ Ap (.slice va xs.length vc) x) ∧ Hid (Below w.heap.size w wr)) (fun _ i _ => l.length - (intOf i).toNat)
  case atStart => exact ⟨[], none, 0, Nat.zero_le _, rfl, rfl, mkH rfl, mkH (World.ownsRow_nil _ _ _ _), mkH (fun x hx => by cases hx), mkH (Below.refl _ _)⟩
  case round =>
    obtain ⟨xs, va, vc, hk, rfl, rfl, HRE, HOW, HXS, HBE⟩ := hrel
    obtain ⟨k, hkk⟩ : ∃ k, xs.length = k := ⟨_, rfl⟩
    have HKK := mkH hkk
    rw [hkk] at hk ⊢
    have hrow := HR.out.below HBE.out
    rcases Nat.lt_or_ge k l.length with hkl | hkl
    · obtain ⟨b, off, rfl, hc⟩ := hrow (by omega)
      obtain ⟨tx, htx⟩ := some_of hkl
      have hcell : wr.cell? ⟨b, off + k, none⟩ = some (.string (S tx)) := by rw [hc k hkl, getD_of htx]
      have HTX := mkH htx
      have hlt := HT.out tx (List.mem_of_getElem? htx)
      have hszw := HBE.out.size
      clear hc htx hkk hrow
      go_wp2_with fail
      refine (read_any wr tx hlt).mono ?_
      rintro e1 W2 ⟨hb2, ⟨x, hrd, rfl, hfar, hm2, hc2⟩ | ⟨hrd, rfl⟩⟩
      · have HX2 : Hid (∀ y ∈ xs ++ [x], RpM W2 y.p.r y.ga y.da y.ra ∧ Cnt y.p.r ∧ Ap (.slice va k vc) y) := mkH (fun y hy => by
          rcases List.mem_append.1 hy with hy | hy
          · obtain ⟨q1, q2, q3⟩ := HXS.out y hy
            rw [HKK.out] at q3
            exact ⟨q1.below hb2, q2, q3⟩
          · simp at hy
            subst hy
            have ho := HOW.out
            rw [HKK.out] at ho
            exact ⟨hm2, hc2, ap_far hfar (own_lt ho)⟩)
        have HO2 : Hid (W2.ownsRow w.heap.size 77 8 (.slice va k vc) k (Fl nC xs)) := mkH (by have ho := HOW.out; rw [HKK.out] at ho; exact Sf.own_bel ho hb2)
        have HB2 := mkH (HBE.out.trans (hb2.mono hszw))
        have HRS : Hid (readE (l.take (k + 1)) = some ((xs ++ [x]).map X.p)) := mkH (by
          have h1 := HRE.out
          rw [HKK.out] at h1
          rw [List.take_add_one, HTX.out, Option.toList_some, List.map_append]
          exact readE_snoc h1 hrd)
        have hcl : (nC x).length = 8 := rfl
        have hs2 : w.heap.size ≤ W2.heap.size := HB2.out.size
        clear hb2 hfar hm2 hc2 HXS HOW HBE HRE hrd
        go_upto_region 6 with (refine wpList_stn rfl (ty := 77) (x := .tmp 7) (y := .tmp 18) (cs := (nC x).toArray) (zs := zN) rfl rfl rfl infoN rfl (by rw [List.all_toArray]; rfl) (fun W3 hB hg => ?_); have HN3 := mkH hB; have HO3 := mkH (Sf.own_bel HO2.out hg.below); have HB3 := mkH (HB2.out.trans (hg.below.mono hs2)); have HX3 : Hid (∀ y ∈ xs ++ [x], RpM W3 y.p.r y.ga y.da y.ra ∧ Cnt y.p.r ∧ Ap (.slice va k vc) y) := mkH (fun y hy => by obtain ⟨q1, q2, q3⟩ := HX2.out y hy; exact ⟨q1.below hg.below, q2, q3⟩); have hs3 : w.heap.size ≤ W3.heap.size := Nat.le_trans hs2 hg.below.size; have HAL : Hid (Below W3.heap.size W3 (W3.alloc (.cells #[.int .i64 x.p.k, .int .i64 x.p.n, .int .i64 x.p.r.err, .int .i64 x.p.r.seq, .int .i64 x.p.r.n, .slice x.ga x.p.r.got.length x.gc, .slice x.da x.p.r.data.length x.dc, .slice x.ra x.p.r.about.length x.rc] 77))) := mkH ((Below.refl _ _).alloc (Nat.le_refl _) _); have HSR : Hid (Src Tryz.prog 8 72 (.slice (some ⟨W3.heap.size, 0, none⟩) 1 1) 1 (Fl nC [x]) (W3.alloc (.cells #[.int .i64 x.p.k, .int .i64 x.p.n, .int .i64 x.p.r.err, .int .i64 x.p.r.seq, .int .i64 x.p.r.n, .slice x.ga x.p.r.got.length x.gc, .slice x.da x.p.r.data.length x.dc, .slice x.ra x.p.r.about.length x.rc] 77))) := mkH (Sf.src_new (P := Tryz.prog) nC_len nC_one (by decide) Tryz.underlying72 W3 x 77); have HLD3 : Hid ((loadVar 77 ⟨W2.heap.size, 0, none⟩).run Tryz.prog W3 = .ok (.agg #[.int .i64 x.p.k, .int .i64 x.p.n, .int .i64 x.p.r.err, .int .i64 x.p.r.seq, .int .i64 x.p.r.n, .slice x.ga x.p.r.got.length x.gc, .slice x.da x.p.r.data.length x.dc, .slice x.ra x.p.r.about.length x.rc]) W3) := mkH (load_bx (P := Tryz.prog) hB Tryz.underlying77 rfl infoN); clear hB hg)
        go_upto_region 8 with fail
        go_wp2_with (first
          | (at_builtin; refine wpList_append_own_src_at _ rfl (.tmp 23) (.tmp 25) 72 72 rfl w.heap.size 77 (.agg zN) 8 112 Tryz.underlying72 info_N rfl (by decide) _ k _ rfl (Sf.own_bel HO3.out HAL.out) _ 1 (Fl nC [x]) rfl HSR.out (by unfold maxLen; omega) (by omega) (by simp; omega) ?_; intro v5 W5 hw5 hg5 hv5; have HW5 := mkH hw5; have HG5 := mkH hg5; have HV5 := mkH hv5; clear hw5 hg5 hv5)
          | (refine Wy.wpList_ld (ty := 77) (x := .tmp 7) rfl rfl rfl HLD3.out ?_))
        obtain ⟨a5, c5, rfl⟩ := own_form HW5.out
        have hlen : (xs ++ [x]).length = k + 1 := by rw [List.length_append, HKK.out]; rfl
        have h5 : W5.ownsRow w.heap.size 77 8 (.slice a5 (xs ++ [x]).length c5) (xs ++ [x]).length (Fl nC (xs ++ [x])) := by
          rw [hlen, Fl_append]
          exact HW5.out
        have hmeas : l.length - (k + 1) < l.length - k := by omega
        refine ⟨⟨xs ++ [x], a5, c5, by rw [hlen]; omega, by rw [hlen]; go_num, by rw [hlen], mkH (by rw [hlen]; exact HRS.out), mkH h5, mkH (fun y hy => by
          obtain ⟨q1, q2, q3⟩ := HX3.out y hy
          rw [hlen]
          exact ⟨rpM_ap (q1.below HAL.out) HG5.out q3, q2, ap_new (q1.below HAL.out) q3 HV5.out⟩), mkH (below_own (Sf.own_bel HO3.out HAL.out) HG5.out (HB3.out.trans (HAL.out.mono hs3)) (by simp; omega))⟩, ?_⟩
        simp [intOf]; omega
      · have HRN : Hid (readE l = none) := mkH (readE_none HTX.out hrd)
        have HB2 := mkH (HBE.out.trans (hb2.mono hszw))
        clear hb2 hrd HXS HOW HBE HRE
        go_wp2_with (first
          | (refine wpList_stn rfl (ty := 77) (x := .tmp 7) (y := .tmp 18) (cs := zN) (zs := zN) rfl rfl rfl infoN rfl one_zN (fun W3 hB hg => ?_); have HB3 := mkH (HB2.out.trans (hg.below.mono HB2.out.size)); clear hB hg))
        go_ret2
        exact ⟨HB3.out, .inr ⟨HRN.out, rfl⟩⟩
    · have hke : k = l.length := by omega
      have HOK := HOW
      clear hrow
      go_wp2_with fail
      go_ret2
      refine ⟨HBE.out, .inl ⟨xs, va, vc, ?_, ?_, RowS.own nC_len HOW.out, fun x hx => ⟨(HXS.out x hx).1, (HXS.out x hx).2.1⟩⟩⟩
      · have := HRE.out
        rw [HKK.out, hke, List.take_length] at this
        exact this
      · rw [HKK.out]; rfl
end Go.Proofs.YtenkgpfeifflnaaGreat.Sra

namespace Go.Proofs.YtenkgpfeifflnaaGreat.Smg
open Go.RowKit Kt Pl Wi Wk Wa Sm Sa Sb Sc Sd Sx Scp Srd Sra
open Dk (Fr block_lt)
open At (RowT)
set_option linter.unusedVariables false
set_option linter.unusedSimpArgs false
set_option maxRecDepth 20000

def mrg (l : List E) (es : List E) : List E := es.foldl (fun l e => noteL l e.k e.n e.r) l
def NoFull : List E → List E → Prop
  | _, [] => True
  | l, e :: es => noteE l e.k e.n ≠ 7 ∧ NoFull (noteL l e.k e.n e.r) es
theorem mrg_snoc (l es : List E) (e : E) : mrg l (es ++ [e]) = noteL (mrg l es) e.k e.n e.r := by unfold mrg; rw [List.foldl_append]; rfl
theorem noFull_at : ∀ (es : List E) (l : List E) (k : Nat) (e : E), NoFull l es → es[k]? = some e → noteE (mrg l (es.take k)) e.k e.n ≠ 7
  | [], l, k, e, _, h => by simp at h
  | q :: es, l, 0, e, hn, h => by simp at h; subst h; exact hn.1
  | q :: es, l, k + 1, e, hn, h => by
    have := noFull_at es (noteL l q.k q.n q.r) k e hn.2 (by simpa using h)
    simpa [mrg] using this
theorem readE_len : ∀ {ts : List Bs} {es : List E}, readE ts = some es → es.length = ts.length
  | [], es, h => by simp only [readE, Option.some.injEq] at h; subst h; rfl
  | b :: ts, es, h => by
    rw [readE] at h
    cases hb : rdE b with
    | none => rw [hb] at h; cases h
    | some e =>
      rw [hb] at h
      simp only at h
      cases ht : readE ts with
      | none => rw [ht] at h; cases h
      | some es' =>
        rw [ht] at h
        simp only [Option.some.injEq] at h
        subst h
        rw [List.length_cons, List.length_cons, readE_len ht]
/-- What Merge hands back and leaves. -/
def MgP (w : World) (T Mb : Nat) (l : List E) (ts : List Bs) (e : Ending) (w' : World) : Prop := Fr (fun k => k = Mb) w w' ∧
  ((∃ es, readE ts = some es ∧ e = .returned (.int .i64 0) ∧ Tb w' (fun _ => True) T Mb (mrg l es)) ∨ (readE ts = none ∧ e = .returned (.int .i64 2) ∧ Tb w' (fun _ => True) T Mb l))
theorem ld_not {W : World} {b off i : Nat} {x : X} (h : ∀ j v, (nC x)[j]? = some v → W.cell? ⟨b, off + i * 8 + j, none⟩ = some v) : (loadVar 77 ⟨b, off + i * 8, none⟩).run Tryz.prog W = .ok (.agg (nC x).toArray) W :=
  run_load_agg 77 _ Tryz.underlying77 rfl b (off + i * 8) (nC x) infoN h
theorem ld_rpN {W : World} {b : Nat} {x : X} (h : Bx W b (nC x).toArray 77) : (loadVar 34 ⟨b, 2, none⟩).run Tryz.prog W = .ok (.agg (Pv x.p.r x.ga x.gc x.da x.dc x.ra x.rc)) W := by
  have := run_load_agg (P := Tryz.prog) (w := W) 34 _ Tryz.underlying34 rfl b 2 (Pv x.p.r x.ga x.gc x.da x.dc x.ra x.rc).toList infoP (fun j v hv => by
    rw [h.cell]
    rcases j with _ | _ | _ | _ | _ | _ | j <;> first | exact hv | (simp [Pv] at hv))
  simpa using this

set_option maxHeartbeats 8000000 in
theorem merge_any {w : World} {T Mb : Nat} {l : List E} (ht : Tb w (fun _ => True) T Mb l) (ao : Option Addr) (cap : Nat) (ts : List Bs) (hr : RowT w ao ts) (hl : ts.length ≤ 1000) (hs : ∀ t ∈ ts, t.length ≤ 500000000) (hnf : ∀ es, readE ts = some es → NoFull l es) :
    Calls Tryz.prog 10 #[.pointer (some ⟨T, 0, none⟩), .slice ao ts.length cap] w fun e w' => MgP w T Mb l ts e w' := by
  have HT := mkH ht
  have HR := mkH hr
  have HS := mkH hs
  have HNF := mkH hnf
  have hbx : ∃ xs : List X, Tx w (fun _ => True) T Mb xs := by obtain ⟨xs, -, h⟩ := ht; exact ⟨xs, h⟩
  obtain ⟨xs0, hX0⟩ := hbx
  have HX0 := mkH hX0
  clear ht hr hs hnf hX0
  go_enter Tryz.func10, Tryz.ntmps10
  go_wp2_with (first
    | (go_at_call 26; refine (isMade_yes HX0.out.bx).mono ?_; rintro e1 w1 ⟨rfl, h⟩; have h2 := h.symm; clear h; subst h2))
  refine (readAll_any w ao cap ts HR.out hl HS.out).mono ?_
  rintro e1 W1 ⟨hb1, ⟨xs, ra, rc, hre, rfl, hrow, hxs⟩ | ⟨hre, rfl⟩⟩
  · have HRE := mkH hre
    have hX1 := HX0.out.below hb1
    have cT1 : W1.cell? ⟨T, 0, none⟩ = some (.map (some Mb)) := hX1.bx.cell 0
    have HX1 := mkH hX1
    have HT1 := mkH (HT.out.below hb1)
    have HRW := mkH hrow
    have HXS := mkH hxs
    have HB1 := mkH hb1
    have HNX := mkH (HNF.out _ hre)
    have hln : xs.length ≤ 1000 := by
      have := readE_len hre
      rw [List.length_map] at this
      omega
    clear hb1 hX1 hrow hxs hre
    go_wp2_with (first
      | (go_at_call 33; refine (mclone_any HX1.out.m).mono ?_; rintro e1 W2 ⟨rfl, hm2, hb2⟩; have HT2 := mkH (HT1.out.below hb2); have HRW2 := mkH (HRW.out.below hb2); have HXS2 : Hid (∀ x ∈ xs, RpM W2 x.p.r x.ga x.da x.ra ∧ Cnt x.p.r) := mkH (fun x hx => ⟨(HXS.out x hx).1.below hb2, (HXS.out x hx).2⟩); have HB2 := mkH (HB1.out.trans (hb2.mono HB1.out.size)); clear hm2 hb2))
    go_loopw [28] (fun i wr => ∃ k : Nat, k ≤ xs.length ∧ i = .int .i64 (k : Int) ∧ Hid (Tb wr (fun _ => True) T Mb (mrg l ((xs.map X.p).take k))) ∧ Hid (RowN wr ra xs) ∧ Hid (∀ x ∈ xs, RpM wr x.p.r x.ga x.da x.ra ∧ Cnt x.p.r) ∧ Hid (Fr (fun k => k = Mb) w wr)) (fun i _ => xs.length - (intOf i).toNat)
    case atStart => exact ⟨0, Nat.zero_le _, rfl, HT2, HRW2, HXS2, mkH (Fr.ofBelow HB2.out)⟩
    case round =>
      clear HT2 HRW2 HXS2 HT1 HX1 HRW HXS
      obtain ⟨k, hk, rfl, HTk, HRk, HXk, HFk⟩ := hrel
      rcases Nat.lt_or_ge k xs.length with hkl | hkl
      · obtain ⟨b, off, rfl, hc⟩ := HRk.out (by omega)
        obtain ⟨x, hx⟩ := some_of hkl
        obtain ⟨hxm, hxc⟩ := HXk.out x (List.mem_of_getElem? hx)
        have HLD : Hid ((loadVar 77 ⟨b, off + k * 8, none⟩).run Tryz.prog wr = .ok (.agg #[.int .i64 x.p.k, .int .i64 x.p.n, .int .i64 x.p.r.err, .int .i64 x.p.r.seq, .int .i64 x.p.r.n, .slice x.ga x.p.r.got.length x.gc, .slice x.da x.p.r.data.length x.dc, .slice x.ra x.p.r.about.length x.rc]) wr) := mkH (ld_not (hc k x hx))
        have HXM := mkH hxm
        have HXC := mkH hxc
        have hxe : (xs.map X.p)[k]? = some x.p := by rw [List.getElem?_map, hx]; rfl
        have hn7 := noFull_at _ l k x.p HNX.out hxe
        have HMS : Hid (mrg l ((xs.map X.p).take (k + 1)) = noteL (mrg l ((xs.map X.p).take k)) x.p.k x.p.n x.p.r) := mkH (by rw [List.take_add_one, hxe]; exact mrg_snoc _ _ _)
        obtain ⟨ne, hne⟩ : ∃ ne, noteE (mrg l ((xs.map X.p).take k)) x.p.k x.p.n = ne := ⟨_, rfl⟩
        rw [hne] at hn7
        have hn7' : (ne == 7) = false := by simpa using hn7
        have HNE := mkH hne
        have HI : Hid ((Tryz.prog.info? 77).map (·.size) = some (#[.int .i64 x.p.k, .int .i64 x.p.n, .int .i64 x.p.r.err, .int .i64 x.p.r.seq, .int .i64 x.p.r.n, .slice x.ga x.p.r.got.length x.gc, .slice x.da x.p.r.data.length x.dc, .slice x.ra x.p.r.about.length x.rc] : Array Value).size) := mkH infoN
        clear hc hx hxm hxc hxe hne
        go_wp2_with (first
          | (go_at_call 8; refine (note_any HT3.out x.p.k x.p.n x.p.r x.ga x.gc x.da x.dc x.ra x.rc HM3.out HXC.out).mono ?_; rintro e1 W4 ⟨rfl, ⟨F4, ht4, -⟩, hf4⟩; rw [HNE.out]; have HT4 := mkH (ht4.mono (fun _ _ => trivial)); have HBR := mkH (Tb.bare HT3.out); have HR4 := mkH (rowS_fr HR3.out hf4 (fun a v hc _ => HBR.out a v hc)); have HX4 : Hid (∀ x ∈ xs, RpM W4 x.p.r x.ga x.da x.ra ∧ Cnt x.p.r) := mkH (fun y hy => ⟨rpM_bare (HX3.out y hy).1 hf4 HBR.out, (HX3.out y hy).2⟩); have HF4 := mkH (HF3.out.trans hf4 (fun i hi => .inl hi)); clear ht4 hf4)
          | (refine Wy.wpList_ld (ty := 34) (x := .tmp 39) rfl rfl rfl (ld_rpN HN3.out) ?_)
          | (refine wpList_stn rfl (ty := 77) (x := .tmp 9) (y := .tmp 31) (cs := #[.int .i64 x.p.k, .int .i64 x.p.n, .int .i64 x.p.r.err, .int .i64 x.p.r.seq, .int .i64 x.p.r.n, .slice x.ga x.p.r.got.length x.gc, .slice x.da x.p.r.data.length x.dc, .slice x.ra x.p.r.about.length x.rc]) (zs := zN) rfl rfl rfl HI.out rfl (by rw [List.all_toArray]; rfl) (fun W3 hB hg => ?_); have HN3 := mkH hB; have HT3 := mkH (HTk.out.below hg.below); have HM3 := mkH (HXM.out.below hg.below); have HR3 := mkH (HRk.out.below hg.below); have HX3 : Hid (∀ x ∈ xs, RpM W3 x.p.r x.ga x.da x.ra ∧ Cnt x.p.r) := mkH (fun y hy => ⟨(HXk.out y hy).1.below hg.below, (HXk.out y hy).2⟩); have HF3 := mkH (HFk.out.trans (Fr.ofBelow (F := fun _ => False) hg.below) (fun i hi => hi.elim)); have c0 : W3.cell? ⟨wr.heap.size, 0, none⟩ = some (.int .i64 x.p.k) := hB.cell 0; have c1 : W3.cell? ⟨wr.heap.size, 1, none⟩ = some (.int .i64 x.p.n) := hB.cell 1; clear hB hg)
          | (refine Wy.wpList_ld (ty := 77) (x := .tmp 30) rfl rfl rfl HLD.out ?_))
        refine ⟨⟨k + 1, by omega, by go_num, mkH (by rw [HMS.out]; exact HT4.out), HR4, HX4, HF4⟩, ?_⟩
        simp [intOf]; omega
      · obtain rfl : k = xs.length := by omega
        have HTE : Hid (Tb wr (fun _ => True) T Mb (mrg l (xs.map X.p))) := mkH (by have := HTk.out; rw [List.take_of_length_le (by simp)] at this; exact this)
        go_wp2_with fail
        go_ret
        exact ⟨HFk.out, .inl ⟨_, HRE.out, rfl, HTE.out⟩⟩
  · have HRE := mkH hre
    have HT1 := mkH (HT.out.below hb1)
    have HB1 := mkH hb1
    clear hre hb1
    go_wp2_with fail
    go_ret
    exact ⟨Fr.ofBelow HB1.out, .inr ⟨HRE.out, rfl, HT1.out⟩⟩
end Go.Proofs.YtenkgpfeifflnaaGreat.Smg

namespace Go.Proofs.YtenkgpfeifflnaaGreat.Tsh
open Go.Shelf
def lkeys_ren : Go.Shelf.Ren := ⟨fun | 7 => 62 | 10 => 74 | n => n, fun | 23 => 60 | 26 => 3 | 3 => 69 | 28 => 114 | 0 => 0 | 27 => 113 | 33 => 67 | 4 => 4 | n => n, fun | n => n⟩
theorem lkeys : Go.Proofs.SlLaysZI.n7 Tryz.prog lkeys_ren := {
  mixed := by kernel_rfl
  f7 := ⟨Tryz.f62.name, by decide, Tryz.func62.trans (congrArg some (by kernel_rfl))⟩
  f10 := ⟨Tryz.f74.name, by decide, Tryz.func74.trans (congrArg some (by kernel_rfl))⟩
  t0 := Tryz.underlying0
  a0 := Tryz.isAgg0
  z0 := Tryz.sizeOf0
  v0 := Tryz.zeroValue0
  t4 := Tryz.underlying4
  a4 := Tryz.isAgg4
  z4 := Tryz.sizeOf4
  v4 := Tryz.zeroValue4
  t23 := Tryz.underlying60
  a23 := Tryz.isAgg60
  z23 := Tryz.sizeOf60
  v23 := Tryz.zeroValue60
  t26 := Tryz.underlying3
  a26 := Tryz.isAgg3
  z26 := Tryz.sizeOf3
  v26 := Tryz.zeroValue3
  t27 := Tryz.underlying113
  a27 := Tryz.isAgg113
  z27 := Tryz.sizeOf113
  v27 := Tryz.zeroValue113
  t28 := Tryz.underlying114
  a28 := Tryz.isAgg114
  z28 := Tryz.sizeOf114
  v28 := Tryz.zeroValue114
  t33 := Tryz.underlying67
  a33 := Tryz.isAgg67
  z33 := Tryz.sizeOf67
  v33 := Tryz.zeroValue67 }
def lsorted_ren : Go.Shelf.Ren := ⟨fun | 6 => 61 | 8 => 72 | 9 => 73 | 11 => 81 | 13 => 83 | 12 => 82 | 23 => 111 | 24 => 112 | 14 => 102 | 15 => 103 | 16 => 104 | 17 => 105 | 18 => 106 | 19 => 107 | 20 => 108 | 21 => 109 | 22 => 110 | 25 => 129 | 26 => 130 | 27 => 131 | 28 => 132 | 29 => 133 | 30 => 134 | 31 => 145 | n => n, fun | 26 => 3 | 28 => 114 | 24 => 53 | 0 => 0 | 3 => 3 | 37 => 145 | 48 => 170 | 50 => 172 | 4 => 4 | 40 => 162 | 39 => 161 | 45 => 167 | 5 => 5 | 9 => 9 | 51 => 184 | 55 => 188 | 57 => 198 | 58 => 199 | 33 => 67 | n => n, fun | n => n⟩
theorem lsorted : Go.Proofs.SlLaysZI.n6 Tryz.prog lsorted_ren := {
  mixed := by kernel_rfl
  f6 := ⟨Tryz.f61.name, by decide, Tryz.func61.trans (congrArg some (by kernel_rfl))⟩
  f8 := ⟨Tryz.f72.name, by decide, Tryz.func72.trans (congrArg some (by kernel_rfl))⟩
  f11 := ⟨Tryz.f81.name, by decide, Tryz.func81.trans (congrArg some (by kernel_rfl))⟩
  t0 := Tryz.underlying0
  a0 := Tryz.isAgg0
  z0 := Tryz.sizeOf0
  v0 := Tryz.zeroValue0
  t24 := Tryz.underlying53
  a24 := Tryz.isAgg53
  z24 := Tryz.sizeOf53
  v24 := Tryz.zeroValue53
  t26 := Tryz.underlying3
  a26 := Tryz.isAgg3
  z26 := Tryz.sizeOf3
  v26 := Tryz.zeroValue3
  t28 := Tryz.underlying114
  a28 := Tryz.isAgg114
  z28 := Tryz.sizeOf114
  v28 := Tryz.zeroValue114
  i26 := by kernel_rfl }
def lsort_ren : Go.Shelf.Ren := ⟨fun | 5 => 73 | 8 => 83 | 7 => 82 | 19 => 111 | 20 => 112 | 10 => 102 | 11 => 103 | 12 => 104 | 13 => 105 | 14 => 106 | 15 => 107 | 16 => 108 | 17 => 109 | 18 => 110 | 30 => 129 | 31 => 130 | 32 => 131 | 33 => 132 | 34 => 133 | 35 => 134 | 40 => 145 | n => n, fun | 23 => 53 | 25 => 3 | 3 => 3 | 32 => 145 | 22 => 53 | 0 => 0 | 44 => 170 | 46 => 172 | 4 => 4 | 36 => 162 | 35 => 161 | 41 => 167 | 5 => 5 | 9 => 9 | 53 => 184 | 57 => 188 | 63 => 198 | 64 => 199 | n => n, fun | n => n⟩
theorem lsort : Go.Proofs.SlLaysM.n5 Tryz.prog lsort_ren := {
  mixed := by kernel_rfl
  f5 := ⟨Tryz.f73.name, by decide, Tryz.func73.trans (congrArg some (by kernel_rfl))⟩
  f7 := ⟨Tryz.f82.name, by decide, Tryz.func82.trans (congrArg some (by kernel_rfl))⟩
  f8 := Tryz.func83.trans (congrArg some (by kernel_rfl))
  f10 := ⟨Tryz.f102.name, by decide, Tryz.func102.trans (congrArg some (by kernel_rfl))⟩
  f11 := ⟨Tryz.f103.name, by decide, Tryz.func103.trans (congrArg some (by kernel_rfl))⟩
  f12 := ⟨Tryz.f104.name, by decide, Tryz.func104.trans (congrArg some (by kernel_rfl))⟩
  f13 := ⟨Tryz.f105.name, by decide, Tryz.func105.trans (congrArg some (by kernel_rfl))⟩
  f14 := ⟨Tryz.f106.name, by decide, Tryz.func106.trans (congrArg some (by kernel_rfl))⟩
  f15 := ⟨Tryz.f107.name, by decide, Tryz.func107.trans (congrArg some (by kernel_rfl))⟩
  f16 := ⟨Tryz.f108.name, by decide, Tryz.func108.trans (congrArg some (by kernel_rfl))⟩
  f17 := ⟨Tryz.f109.name, by decide, Tryz.func109.trans (congrArg some (by kernel_rfl))⟩
  f18 := ⟨Tryz.f110.name, by decide, Tryz.func110.trans (congrArg some (by kernel_rfl))⟩
  f19 := Tryz.func111.trans (congrArg some (by kernel_rfl))
  f20 := Tryz.func112.trans (congrArg some (by kernel_rfl))
  f30 := ⟨Tryz.f129.name, by decide, Tryz.func129.trans (congrArg some (by kernel_rfl))⟩
  f31 := Tryz.func130.trans (congrArg some (by kernel_rfl))
  f32 := Tryz.func131.trans (congrArg some (by kernel_rfl))
  f33 := ⟨Tryz.f132.name, by decide, Tryz.func132.trans (congrArg some (by kernel_rfl))⟩
  f34 := ⟨Tryz.f133.name, by decide, Tryz.func133.trans (congrArg some (by kernel_rfl))⟩
  f35 := ⟨Tryz.f134.name, by decide, Tryz.func134.trans (congrArg some (by kernel_rfl))⟩
  f40 := ⟨Tryz.f145.name, by decide, Tryz.func145.trans (congrArg some (by kernel_rfl))⟩
  t0 := Tryz.underlying0
  a0 := Tryz.isAgg0
  z0 := Tryz.sizeOf0
  v0 := Tryz.zeroValue0
  t3 := Tryz.underlying3
  a3 := Tryz.isAgg3
  z3 := Tryz.sizeOf3
  v3 := Tryz.zeroValue3
  t4 := Tryz.underlying4
  a4 := Tryz.isAgg4
  z4 := Tryz.sizeOf4
  v4 := Tryz.zeroValue4
  t5 := Tryz.underlying5
  a5 := Tryz.isAgg5
  z5 := Tryz.sizeOf5
  v5 := Tryz.zeroValue5
  t9 := Tryz.underlying9
  a9 := Tryz.isAgg9
  z9 := Tryz.sizeOf9
  v9 := Tryz.zeroValue9
  t22 := Tryz.underlying53
  a22 := Tryz.isAgg53
  z22 := Tryz.sizeOf53
  v22 := Tryz.zeroValue53
  t23 := Tryz.underlying53
  a23 := Tryz.isAgg53
  z23 := Tryz.sizeOf53
  v23 := Tryz.zeroValue53
  t25 := Tryz.underlying3
  a25 := Tryz.isAgg3
  z25 := Tryz.sizeOf3
  v25 := Tryz.zeroValue3
  t32 := Tryz.underlying145
  a32 := Tryz.isAgg145
  z32 := Tryz.sizeOf145
  v32 := Tryz.zeroValue145
  t35 := Tryz.underlying161
  a35 := Tryz.isAgg161
  z35 := Tryz.sizeOf161
  v35 := Tryz.zeroValue161
  t36 := Tryz.underlying162
  a36 := Tryz.isAgg162
  z36 := Tryz.sizeOf162
  v36 := Tryz.zeroValue162
  t41 := Tryz.underlying167
  a41 := Tryz.isAgg167
  z41 := Tryz.sizeOf167
  v41 := Tryz.zeroValue167
  t44 := Tryz.underlying170
  a44 := Tryz.isAgg170
  z44 := Tryz.sizeOf170
  v44 := Tryz.zeroValue170
  t46 := Tryz.underlying172
  a46 := Tryz.isAgg172
  z46 := Tryz.sizeOf172
  v46 := Tryz.zeroValue172
  t53 := Tryz.underlying184
  a53 := Tryz.isAgg184
  z53 := Tryz.sizeOf184
  v53 := Tryz.zeroValue184
  t57 := Tryz.underlying188
  a57 := Tryz.isAgg188
  z57 := Tryz.sizeOf188
  v57 := Tryz.zeroValue188
  t63 := Tryz.underlying198
  a63 := Tryz.isAgg198
  z63 := Tryz.sizeOf198
  v63 := Tryz.zeroValue198
  t64 := Tryz.underlying199
  a64 := Tryz.isAgg199
  z64 := Tryz.sizeOf199
  v64 := Tryz.zeroValue199 }
end Go.Proofs.YtenkgpfeifflnaaGreat.Tsh

namespace Go.Proofs.YtenkgpfeifflnaaGreat.Si
open Go.RowKit Go.Shelf Kt
open Dk (Fr block_lt)
set_option linter.unusedVariables false
attribute [local go_sem] Oper.semAt_some

theorem fr_put (W : World) (l : Nat) (o : Obj) : Fr (fun k => k = l) W (W.putObj l o) := ⟨rfl, rfl, rfl, by simp, fun k _ hk => World.putObj_heap_other hk⟩
/-- Of the old blocks below m only those of Q have turned. -/
structure Fm (m : Nat) (Q : Nat → Prop) (w w' : World) : Prop where
  os : w'.os = w.os
  tape : w'.tape = w.tape
  output : w'.output = w.output
  size : w.heap.size ≤ w'.heap.size
  block : ∀ k, k < m → k < w.heap.size → ¬ Q k → w'.heap[k]? = w.heap[k]?
theorem Fm.ofFr {m : Nat} {Q : Nat → Prop} {w w' : World} (h : Fr Q w w') : Fm m Q w w' := ⟨h.os, h.tape, h.output, h.size, fun k _ hk hq => h.block k hk hq⟩
theorem Fm.trans {m : Nat} {Q : Nat → Prop} {a b c : World} (h : Fm m Q a b) (k : Fm m Q b c) : Fm m Q a c := ⟨k.os.trans h.os, k.tape.trans h.tape, k.output.trans h.output, Nat.le_trans h.size k.size, fun i hm hi hq => (k.block i hm (Nat.lt_of_lt_of_le hi h.size) hq).trans (h.block i hm hi hq)⟩
theorem Fm.mono {m : Nat} {Q R : Nat → Prop} {a b : World} (h : Fm m Q a b) (hi : ∀ k, Q k → R k) : Fm m R a b := ⟨h.os, h.tape, h.output, h.size, fun i hm hk hq => h.block i hm hk (fun x => hq (hi i x))⟩
theorem Fm.ofBelow {m : Nat} {Q : Nat → Prop} {w w' : World} (h : Below m w w') : Fm m Q w w' := ⟨h.os, h.tape, h.output, h.size, fun k hm hk hq => h.block k hm⟩

/-- What an iterator promises that tells these, one by one, to a body that always goes on: behind its first round the body writes, of what was there ahead of that round (below m), no more than Q. -/
def SeqM {α : Type} (P : Program) (n g : Nat) (lb : Array Value) (ar : α → Array Value) (Q : Nat → Prop) (L : List α) (w : World) : Prop :=
  ∀ (l : Nat) (J : Nat → Nat → World → Prop) (W : World), Below w.heap.size w W → w.heap.size ≤ l → l < W.heap.size → (∀ m, OwnFrom W.heap.size (J m)) →
    (∀ m k x W1, W.heap.size ≤ m → m ≤ W1.heap.size → J m k W1 → L[k]? = some x → YieldAt Fence.wide (n - 1) P l (ar x) W1 fun e W' => e = .returned (.bool true) ∧ J m (k + 1) W' ∧ Fm m (fun k => Q k ∨ k = l) W1 W') →
    (∀ m, W.heap.size ≤ m → J m 0 W) → CallsIn Fence.wide n P g (#[.func (.yield l) #[] #[]] ++ lb) W fun e W' => (∃ v, e = .returned v) ∧ ∃ m, W.heap.size ≤ m ∧ J m L.length W'

/-- How a round's body is left. -/
def onPost (m : Nat) (Q : Nat → Prop) (I : World → Prop) (W : World) : Exit → Act → World → Prop
  | .normal, _, W' => Fm m Q W W' ∧ I W'
  | _, _, _ => False

set_option maxHeartbeats 1000000 in
/-- The loop over such an iterator. -/
theorem rfM {α : Type} {P : Program} {n : Nat} {g : Operand} {ps : Array Tmp} {assign body : Code} {R : Exit → Act → World → Prop} {a : Act} {w : World} (h1 : 1 ≤ n) {gf : Nat} {lb : Array Value} (hg : a.eval g = .func (.func gf) #[] lb)
    (eg : ∀ args w, (callFunc gf args).run P w = .ok (.enter gf args) w) {ar : α → Array Value} {Q : Nat → Prop} {L : List α} {w0 : World} (hseq : SeqM P (n - 1) gf lb ar Q L w0)
    (hb0 : Below w0.heap.size w0 w) (hQ : ∀ k, Q k → k < w.heap.size) (hps : ∀ x, (ar x).size = ps.size)
    (I : Nat → Nat → World → Prop) (hI : ∀ m, OwnFrom w.heap.size (I m)) (h0 : ∀ m, w.heap.size ≤ m → I m 0 w) (a₁ : α → Act)
    (hassign : ∀ (l : Nat) (x : α) (W : World) (K : Act → World → Prop), K (a₁ x) W →
      assign.wpIn (Fence.wide.inRound l) (n - 1 - 1) P (Exit.then K (fun _ _ _ => False)) { tmps := (ps.zip (ar x)).foldl (fun t (p, v) => t.setIfInBounds p v) a.tmps, defers := [] } W)
    (hbody : ∀ (l m k : Nat) (x : α) (W : World), w.heap.size ≤ l → w.heap.size + 2 ≤ m → m ≤ W.heap.size → I m k W → L[k]? = some x →
      body.wpIn (Fence.wide.inRound l) (n - 1 - 1) P (onPost m Q (I m (k + 1)) W) (a₁ x) W)
    (hdone : ∀ (D m : Nat) (W : World), w.heap.size ≤ D → w.heap.size + 2 ≤ m → I m L.length W → W.heap[D]? = some (.deferred (some [])) → R .normal { a with defers := { target := .collected D, args := #[] } :: a.defers } W) :
    (Code.rangeFunc g ps assign body).wpIn Fence.wide n P R a w := by
  refine wpIn_rangeFunc fun fn hfn => ?_
  obtain ⟨rec, hrec⟩ : ∃ rec : LoopState → Option Code → Loop, rec = fun st pe => { state := st, pending := pe, fn, tmps := a.tmps, params := ps, assign, body, defers := w.heap.size } := ⟨_, rfl⟩
  obtain ⟨W1, hW1⟩ : ∃ W1, (w.alloc (.deferred (some []))).alloc (.loop (rec .ready none)) = W1 := ⟨_, rfl⟩
  have hs1 : W1.heap.size = w.heap.size + 2 := by rw [← hW1]; simp
  have hr1 : W1.heap[w.heap.size + 1]? = some (.loop (rec .ready none)) := by
    rw [← hW1]
    have := World.alloc_heap_new (w.alloc (.deferred (some []))) (.loop (rec .ready none))
    rwa [World.size_alloc] at this
  have hd1 : W1.heap[w.heap.size]? = some (.deferred (some [])) := by rw [← hW1]; exact (Below.heap_alloc _ _ _ (by simp)).trans (World.alloc_heap_new w _)
  have hI1 : ∀ m, W1.heap.size ≤ m → I m 0 W1 := fun m hm => by rw [← hW1]; exact (hI m).alloc _ ((hI m).alloc _ (h0 m (by omega)))
  have hbb : Below w0.heap.size w0 W1 := by rw [← hW1]; exact hb0.trans ((((Below.refl _ w).alloc (Nat.le_refl _) _).alloc (by simp) _).mono hb0.size)
  have hcall := hseq (w.heap.size + 1) (fun m k W => I m k W ∧ W.heap[w.heap.size + 1]? = some (.loop (rec .ready none)) ∧ W.heap[w.heap.size]? = some (.deferred (some []))) W1 hbb (by have := hb0.size; omega) (by omega)
    (fun m k A B row hs hgr hrow => ⟨hI m k A B row hs.1 hgr (fun r e => ⟨by have := (hrow r e).1; omega, (hrow r e).2⟩),
      (hgr.block _ (block_lt hs.2.1) (fun e => by have := (hrow _ e.symm).1; omega)).trans hs.2.1, (hgr.block _ (block_lt hs.2.2) (fun e => by have := (hrow _ e.symm).1; omega)).trans hs.2.2⟩)
    (fun m k x W hm hmW hJ hL => by
      obtain ⟨hi, hl, hd⟩ := hJ
      have hlt := block_lt hl
      have hy := run_yield (P := P) (args := ar x) hl (by rw [hrec]; simp [hps])
      rw [hrec] at hy
      refine ⟨fn, _, assign, body, hy, roundIn_of_wpIn hfn (hassign _ x W _ ⟨_, run_beginRound hl (by rw [hrec]), ?_⟩)⟩
      obtain ⟨W2, hW2⟩ : ∃ W2, W.putObj (w.heap.size + 1) (.loop { rec .ready none with state := .busy }) = W2 := ⟨_, rfl⟩
      have hl2 : W2.heap[w.heap.size + 1]? = some (.loop { rec .ready none with state := .busy }) := by rw [← hW2]; exact World.putObj_heap_same hlt
      have hd2 : W2.heap[w.heap.size]? = some (.deferred (some [])) := by rw [← hW2]; exact (World.putObj_heap_other (by omega)).trans hd
      have hk2 : Fr (fun k => k = w.heap.size + 1) W W2 := by rw [← hW2]; exact fr_put _ _ _
      have hi2 : I m k W2 := by rw [← hW2]; exact (hI m).putObj _ hi (by omega) hl rfl
      rw [hW2]
      refine wpIn_mono (hbody _ m k x W2 (by omega) (by omega) (Nat.le_trans hmW hk2.size) hi2 hL) ?_
      rintro e a3 W3 hp
      cases e with
      | normal =>
        obtain ⟨hf3, hi3⟩ := hp
        have hl3 := (hf3.block _ (by omega) (block_lt hl2) (fun x => by have := hQ _ x; omega)).trans hl2
        have hd3 := (hf3.block _ (by omega) (block_lt hd2) (fun x => by have := hQ _ x; omega)).trans hd2
        have hend := run_endRound (P := P) none hl3
        refine ⟨_, _, hend, rfl, ⟨(hI m).putObj _ hi3 (by omega) hl3 rfl, ?_, (World.putObj_heap_other (by omega)).trans hd3⟩, ?_⟩
        · rw [World.putObj_heap_same (block_lt hl3), hrec]
          rfl
        · have q1 : Fm m (fun k => Q k ∨ k = w.heap.size + 1) W W2 := Fm.ofFr (hk2.mono (fun k hk => .inr hk))
          have q2 := q1.trans (hf3.mono (fun i hi => .inl hi))
          exact q2.trans (Fm.ofFr ((fr_put _ _ _).mono (fun k hk => .inr hk)))
      | ret => exact hp.elim
      | exit id => exact hp.elim
      | goto t => exact hp.elim
      | panic ch => exact hp.elim
      | outgrown => exact hp.elim)
    (fun m hm => ⟨hI1 m hm, hr1, hd1⟩)
  refine ⟨w.heap.size + 1, [{ target := .collected w.heap.size, args := #[] }], W1, { target := .fn (.func gf) lb, args := #[.func (.yield (w.heap.size + 1)) #[] #[]] }, W1, gf, #[.func (.yield (w.heap.size + 1)) #[] #[]] ++ lb, W1, ?_, ?_, ?_, ?_, fun _ => h1, ?_⟩
  · rw [← hW1, hrec]; exact run_enterLoop_outer _ _ _ _ _
  · simp only [resolve, hg]
    simp [go_sem]
  · intro f' _; exact trivial
  · simp [invoke, go_sem, eg]
  · refine hcall.mono ?_
    rintro e W2 ⟨⟨v, rfl⟩, m, hm, hi, hl, hd⟩
    have hend := run_endLoop (P := P) hl (by rw [hrec]; simp)
    refine ⟨none, _, ?_, hdone _ m _ (Nat.le_refl _) (by omega) ((hI m).putObj (.loop { rec .ready none with state := .exhausted }) hi (by omega) hl rfl) ((World.putObj_heap_other (by omega)).trans hd)⟩
    rw [hend, hrec]

set_option maxHeartbeats 1000000 in
/-- .. where what a round begins with makes memory. -/
theorem rfN {α : Type} {P : Program} {n : Nat} {g : Operand} {ps : Array Tmp} {assign body : Code} {R : Exit → Act → World → Prop} {a : Act} {w : World} (h1 : 1 ≤ n) {gf : Nat} {lb : Array Value} (hg : a.eval g = .func (.func gf) #[] lb)
    (eg : ∀ args w, (callFunc gf args).run P w = .ok (.enter gf args) w) {ar : α → Array Value} {Q : Nat → Prop} {L : List α} {w0 : World} (hseq : SeqM P (n - 1) gf lb ar Q L w0)
    (hb0 : Below w0.heap.size w0 w) (hQ : ∀ k, Q k → k < w.heap.size) (hps : ∀ x, (ar x).size = ps.size)
    (I : Nat → Nat → World → Prop) (hI : ∀ m, OwnFrom w.heap.size (I m)) (h0 : ∀ m, w.heap.size ≤ m → I m 0 w) (A : α → Act → World → Prop) (hA : ∀ x a', OwnFrom w.heap.size (fun (_ : Unit) W => A x a' W))
    (hassign : ∀ (l : Nat) (x : α) (W : World) (K : Act → World → Prop), (∀ a' W', Below W.heap.size W W' → A x a' W' → K a' W') →
      assign.wpIn (Fence.wide.inRound l) (n - 1 - 1) P (Exit.then K (fun _ _ _ => False)) { tmps := (ps.zip (ar x)).foldl (fun t (p, v) => t.setIfInBounds p v) a.tmps, defers := [] } W)
    (hbody : ∀ (l m k : Nat) (x : α) (a' : Act) (W : World), w.heap.size ≤ l → w.heap.size + 2 ≤ m → m ≤ W.heap.size → I m k W → A x a' W → L[k]? = some x →
      body.wpIn (Fence.wide.inRound l) (n - 1 - 1) P (onPost m Q (I m (k + 1)) W) a' W)
    (hdone : ∀ (D m : Nat) (W : World), w.heap.size ≤ D → w.heap.size + 2 ≤ m → I m L.length W → W.heap[D]? = some (.deferred (some [])) → R .normal { a with defers := { target := .collected D, args := #[] } :: a.defers } W) :
    (Code.rangeFunc g ps assign body).wpIn Fence.wide n P R a w := by
  refine wpIn_rangeFunc fun fn hfn => ?_
  obtain ⟨rec, hrec⟩ : ∃ rec : LoopState → Option Code → Loop, rec = fun st pe => { state := st, pending := pe, fn, tmps := a.tmps, params := ps, assign, body, defers := w.heap.size } := ⟨_, rfl⟩
  obtain ⟨W1, hW1⟩ : ∃ W1, (w.alloc (.deferred (some []))).alloc (.loop (rec .ready none)) = W1 := ⟨_, rfl⟩
  have hs1 : W1.heap.size = w.heap.size + 2 := by rw [← hW1]; simp
  have hr1 : W1.heap[w.heap.size + 1]? = some (.loop (rec .ready none)) := by
    rw [← hW1]
    have := World.alloc_heap_new (w.alloc (.deferred (some []))) (.loop (rec .ready none))
    rwa [World.size_alloc] at this
  have hd1 : W1.heap[w.heap.size]? = some (.deferred (some [])) := by rw [← hW1]; exact (Below.heap_alloc _ _ _ (by simp)).trans (World.alloc_heap_new w _)
  have hI1 : ∀ m, W1.heap.size ≤ m → I m 0 W1 := fun m hm => by rw [← hW1]; exact (hI m).alloc _ ((hI m).alloc _ (h0 m (by omega)))
  have hbb : Below w0.heap.size w0 W1 := by rw [← hW1]; exact hb0.trans ((((Below.refl _ w).alloc (Nat.le_refl _) _).alloc (by simp) _).mono hb0.size)
  have hcall := hseq (w.heap.size + 1) (fun m k W => I m k W ∧ W.heap[w.heap.size + 1]? = some (.loop (rec .ready none)) ∧ W.heap[w.heap.size]? = some (.deferred (some []))) W1 hbb (by have := hb0.size; omega) (by omega)
    (fun m k A B row hs hgr hrow => ⟨hI m k A B row hs.1 hgr (fun r e => ⟨by have := (hrow r e).1; omega, (hrow r e).2⟩),
      (hgr.block _ (block_lt hs.2.1) (fun e => by have := (hrow _ e.symm).1; omega)).trans hs.2.1, (hgr.block _ (block_lt hs.2.2) (fun e => by have := (hrow _ e.symm).1; omega)).trans hs.2.2⟩)
    (fun m k x W hm hmW hJ hL => by
      obtain ⟨hi0, hl0, hd0⟩ := hJ
      have hy := run_yield (P := P) (args := ar x) hl0 (by rw [hrec]; simp [hps])
      rw [hrec] at hy
      refine ⟨fn, _, assign, body, hy, roundIn_of_wpIn hfn (hassign _ x W _ (fun a' Wa hba hAa => ?_))⟩
      have hl := (hba.block _ (block_lt hl0)).trans hl0
      have hd := (hba.block _ (block_lt hd0)).trans hd0
      have hi : I m k Wa := hI m k W Wa none hi0 ⟨hba.os, hba.tape, hba.output, hba.size, fun q hq _ => hba.block q hq⟩ (fun r e => by cases e)
      have hlt := block_lt hl
      refine ⟨_, run_beginRound hl (by rw [hrec]), ?_⟩
      obtain ⟨W2, hW2⟩ : ∃ W2, Wa.putObj (w.heap.size + 1) (.loop { rec .ready none with state := .busy }) = W2 := ⟨_, rfl⟩
      have hl2 : W2.heap[w.heap.size + 1]? = some (.loop { rec .ready none with state := .busy }) := by rw [← hW2]; exact World.putObj_heap_same hlt
      have hd2 : W2.heap[w.heap.size]? = some (.deferred (some [])) := by rw [← hW2]; exact (World.putObj_heap_other (by omega)).trans hd
      have hk2 : Fr (fun k => k = w.heap.size + 1) Wa W2 := by rw [← hW2]; exact fr_put _ _ _
      have hi2 : I m k W2 := by rw [← hW2]; exact (hI m).putObj _ hi (by omega) hl rfl
      have hA2 : A x a' W2 := by rw [← hW2]; exact (hA x a').putObj (s := ()) _ hAa (by omega) hl rfl
      rw [hW2]
      refine wpIn_mono (hbody _ m k x a' W2 (by omega) (by omega) (Nat.le_trans hmW (Nat.le_trans hba.size hk2.size)) hi2 hA2 hL) ?_
      rintro e a3 W3 hp
      cases e with
      | normal =>
        obtain ⟨hf3, hi3⟩ := hp
        have hl3 := (hf3.block _ (by omega) (block_lt hl2) (fun x => by have := hQ _ x; omega)).trans hl2
        have hd3 := (hf3.block _ (by omega) (block_lt hd2) (fun x => by have := hQ _ x; omega)).trans hd2
        have hend := run_endRound (P := P) none hl3
        refine ⟨_, _, hend, rfl, ⟨(hI m).putObj _ hi3 (by omega) hl3 rfl, ?_, (World.putObj_heap_other (by omega)).trans hd3⟩, ?_⟩
        · rw [World.putObj_heap_same (block_lt hl3), hrec]
          rfl
        · have q0 : Fm m (fun k => Q k ∨ k = w.heap.size + 1) W Wa := Fm.ofFr (Fr.ofBelow hba)
          have q1 : Fm m (fun k => Q k ∨ k = w.heap.size + 1) W W2 := q0.trans (Fm.ofFr (hk2.mono (fun k hk => .inr hk)))
          have q2 := q1.trans (hf3.mono (fun i hi => .inl hi))
          exact q2.trans (Fm.ofFr ((fr_put _ _ _).mono (fun k hk => .inr hk)))
      | ret => exact hp.elim
      | exit id => exact hp.elim
      | goto t => exact hp.elim
      | panic ch => exact hp.elim
      | outgrown => exact hp.elim)
    (fun m hm => ⟨hI1 m hm, hr1, hd1⟩)
  refine ⟨w.heap.size + 1, [{ target := .collected w.heap.size, args := #[] }], W1, { target := .fn (.func gf) lb, args := #[.func (.yield (w.heap.size + 1)) #[] #[]] }, W1, gf, #[.func (.yield (w.heap.size + 1)) #[] #[]] ++ lb, W1, ?_, ?_, ?_, ?_, fun _ => h1, ?_⟩
  · rw [← hW1, hrec]; exact run_enterLoop_outer _ _ _ _ _
  · simp only [resolve, hg]
    simp [go_sem]
  · intro f' _; exact trivial
  · simp [invoke, go_sem, eg]
  · refine hcall.mono ?_
    rintro e W2 ⟨⟨v, rfl⟩, m, hm, hi, hl, hd⟩
    have hend := run_endLoop (P := P) hl (by rw [hrec]; simp)
    refine ⟨none, _, ?_, hdone _ m _ (Nat.le_refl _) (by omega) ((hI m).putObj (.loop { rec .ready none with state := .exhausted }) hi (by omega) hl rfl) ((World.putObj_heap_other (by omega)).trans hd)⟩
    rw [hend, hrec]
end Go.Proofs.YtenkgpfeifflnaaGreat.Si

namespace Go.Proofs.YtenkgpfeifflnaaGreat.Sk
open Go.RowKit Go.Maps Go.Sort Go.Shelf Kt Sm Sa Tsh
set_option linter.unusedVariables false
set_option maxRecDepth 20000

def iK (l : List X) : List Value := l.map fun (p : X) => Value.int .i64 p.k
theorem iK_len (l : List X) : (iK l).length = l.length := by simp [iK]
theorem intKeys_Dm (l : List X) : intKeys (Dm X.k X.v l) = l.map (fun (p : X) => p.k) := by
  simp only [Dm, intKeys, List.map_map]
  rfl
theorem sorts (m : Nat) : AnyZI.SortsIn Tryz.prog lsorted_ren Fence.wide m :=
  ⟨fun blk off cap ss W hH hblk hsz => callsIn_wide.2 (AnyM.slices_Sort_int lsort blk off cap ss W hH hblk hsz),
   fun p cap W => callsIn_wide.2 (AnyM.slices_Sort_int_none lsort p cap W)⟩
theorem keys_any (mb : Option Nat) (W : World) : Calls Tryz.prog 62 #[.map mb] W fun e w' => e = .returned (.func (.func 74) #[] #[.pointer (some ⟨W.heap.size, 0, none⟩)]) ∧ w' = W.alloc (.cells #[.map mb] 60) :=
  (callsIn_wide (n := 5)).1 (AnyZI.keys_in lkeys Fence.wide 5 trivial rfl mb W)
theorem sort_is {l : List X} (hs : Srt X.k l) {ss : List Int} (h : ss.Perm (l.map fun (p : X) => p.k)) : (ss.mergeSort fun x y => decide (x ≤ y)) = l.map fun (p : X) => p.k := by
  have h1 := mergeSort_of_perm_i h
  unfold leI at h1
  rw [h1]
  refine List.mergeSort_of_pairwise ?_
  rw [List.pairwise_map]
  exact List.Pairwise.imp (fun {a b} h => by simp; omega) hs

set_option maxHeartbeats 1000000 in
theorem sorted_any {w : World} {b : Nat} {l : List X} (hm : Mt w b l) (hs : Srt X.k l) (hl : l.length ≤ 100000) :
    Calls Tryz.prog 61 #[.func (.func 74) #[] #[.pointer (some ⟨w.heap.size, 0, none⟩)]] (w.alloc (.cells #[.map (some b)] 60)) fun e w' => ∃ ao cap, e = .returned (.slice ao l.length cap) ∧
      w'.ownsRow (w.heap.size + 1) 3 1 (.slice ao l.length cap) l.length (iK l) ∧ Below (w.heap.size + 1) (w.alloc (.cells #[.map (some b)] 60)) w' := by
  have hbl := hm.lt
  have hown : w.ownsMap Tryz.prog 3 vE b l.length (Dm X.k X.v l) := hm
  have hseq : SeqGives Fence.wide 2 Tryz.prog 74 #[.pointer (some ⟨w.heap.size, 0, none⟩)] encZ (fun ss => ss.Perm (intKeys (Dm X.k X.v l))) (Maps.size (Dm X.k X.v l)) (w.alloc (.cells #[.map (some b)] 60)) :=
    AnyZI.keys_gives (ρ := lkeys_ren) { lkeys with } Fence.wide _ trivial rfl (by omega) w.heap.size b l.length (Dm X.k X.v l) _ (by simp) (by simp) (hown.alloc _)
  refine (callsIn_wide (n := 5)).1 ?_
  refine (AnyZI.sorted_in lsorted Fence.wide 5 trivial trivial trivial trivial rfl (by omega) (sorts _) (enters_of Tryz.func73 (by kernel_rfl) rfl) 74 #[.pointer (some ⟨w.heap.size, 0, none⟩)] trivial (enters_of Tryz.func74 (by kernel_rfl) rfl) _ _ (by rw [Dm_size]; unfold maxLen; omega) (by rw [Dm_size]; omega) _ hseq).mono ?_
  rintro e w' ⟨v, ss, rfl, hS, hrow, hnil, hb⟩
  have hsz : (w.alloc (.cells #[.map (some b)] 60)).heap.size = w.heap.size + 1 := by simp
  rw [hsz] at hrow hb
  rw [intKeys_Dm] at hS
  have hlen : ss.length = l.length := by rw [hS.length_eq]; simp
  rw [sort_is hs hS, hlen] at hrow
  have e1 : (l.map fun (p : X) => p.k).map encZ = iK l := by simp [iK, encZ]
  rw [e1] at hrow
  obtain ⟨ao, cap, rfl⟩ := own_form hrow
  exact ⟨ao, cap, rfl, hrow, hb⟩
end Go.Proofs.YtenkgpfeifflnaaGreat.Sk
