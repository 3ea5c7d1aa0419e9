/-
  QuG WiW WiR, joined by mrg.py.
-/
import Derived.Test.YtgbbajeeelgbhaaGreatDoorSqAS
import Derived.Test.YtgbbajeeelgbhaaGreatDoorSqAG
import Derived.Deep.RegionHeld3
import Derived.Deep.QuietTactic

namespace Go.Proofs.YtgbbajeeelgbhaaGreatDoor.Qg
open Go.RowKit Kt Gf Gk Gp Qm Qa Qb Qc Qd Qe Qf Go.Shelf Go.Lib
open Gr (RowS Fl Gl Go' gC)
open Pl (Rg may inn fnd join real putAll)
open Pr (Rw Ow)
open Wi (Rp Cm)
open Wk (Cv)
open Wa (Pv RpM)
set_option linter.unusedVariables false
set_option linter.unusedSectionVars false
set_option linter.unusedSimpArgs false
set_option maxRecDepth 20000

theorem mayBe_all (w : World) (ao : Option Addr) (cap : Nat) (l : List Cf) (hr : RowQ w ao l) :
    Calls Tryz.prog 77 #[.slice ao l.length cap] w fun e w' => e = .returned (.bool (mayQb l)) ∧ Below w.heap.size w w' := by
  by_cases hl : 1 ≤ l.length ∧ l.length ≤ 6
  · exact mayBe_any w ao cap l hr hl
  · rw [mayQ_len hl]
    refine (mayBe_len w ao cap l.length (by omega)).mono ?_
    rintro e w1 ⟨rfl, rfl⟩
    exact ⟨rfl, Below.refl _ _⟩
theorem mayQ_bd {l : List Cf} (h : mayQb l = true) : 1 ≤ l.length ∧ l.length ≤ 6 := by
  rcases Classical.em (1 ≤ l.length ∧ l.length ≤ 6) with h1 | h1
  · exact h1
  · rw [mayQ_len h1] at h; cases h

theorem New_bad (w : World) (qa : Option Addr) (qc : Nat) (cf : List Cf) (hq : RowQ w qa cf) (sa : Option Addr) (sc : Nat) (sv : List Rg) (hs : Rw w sa sv) (hl : sv.length ≤ 1000) (hb : (mayQb cf && apartR sv) = false) :
    Calls Tryz.prog 36 #[.slice qa cf.length qc, .slice sa sv.length sc] w fun e w' => e = .returned (.tuple #[.pointer none, .int .i64 2]) ∧ Below w.heap.size w w' := by
  have HS := mkH hs
  have HM := mkH (mayBe_all w qa qc cf hq)
  have HL := mkH hl
  clear hq hs hl
  cases hm : mayQb cf with
  | false =>
    rw [hm] at HM
    clear hb hm
    go_enter Tryz.func36, Tryz.ntmps36
    go_wp2_with (go_at_call 77; refine HM.out.mono ?_; rintro e1 w1 ⟨rfl, hb1⟩; have HB1 := mkH hb1; clear hb1)
    go_ret2
    exact ⟨rfl, HB1.out⟩
  | true =>
    rw [hm] at HM hb
    have HA : Hid (apartR sv = false) := mkH (by simpa using hb)
    clear hb hm
    go_enter Tryz.func36, Tryz.ntmps36
    go_wp2_with (first
      | (go_at_call 77; refine HM.out.mono ?_; rintro e1 w1 ⟨rfl, hb1⟩; have HB1 := mkH hb1; clear hb1)
      | (go_at_call 78; refine (areApart_any w1 sa sc sv (HS.out.below HB1.out) HL.out).mono ?_; rintro e2 w2 ⟨rfl, hb2⟩; rw [HA.out]; have HB2 := mkH (HB1.out.trans (hb2.mono HB1.out.size)); clear hb2))
    go_ret2
    exact ⟨rfl, HB2.out⟩

set_option maxHeartbeats 4000000 in
theorem New_ok (w : World) (qa : Option Addr) (qc : Nat) (cf : List Cf) (hq : RowQ w qa cf) (sa : Option Addr) (sc : Nat) (sv : List Rg) (hs : Rw w sa sv) (hl : sv.length ≤ 1000) (hb : mayQb cf = true) (ha : apartR sv = true) :
    Calls Tryz.prog 36 #[.slice qa cf.length qc, .slice sa sv.length sc] w fun e w' => ∃ Xb Mb qa' qc' sa' sc', e = .returned (.tuple #[.pointer (some ⟨Xb, 0, none⟩), .int .i64 0]) ∧ Ex w' Xb Mb cf (join sv) [] qa' qc' sa' sc' ∧ w.heap.size ≤ Mb ∧ w.heap.size ≤ Xb ∧ Below w.heap.size w w' := by
  have hmm := @run_makeMap Tryz.prog
  have HS := mkH hs
  have HQ := mkH hq
  have HM := mkH (mayBe_all w qa qc cf hq)
  rw [hb] at HM
  have HL := mkH hl
  have HA := mkH ha
  have HN := mkH (mayQ_bd hb)
  clear hq hs hl hb ha
  go_enter Tryz.func36, Tryz.ntmps36
  go_wp2_with (first
    | (go_at_call 80; refine (Pj.join_any w3 sa sc sv (HS.out.below HB3.out) HL.out).mono ?_; rintro e4 w4 ⟨v4, rfl, hO4, hb4⟩; obtain ⟨a4, c4, rfl, hc1, hc2⟩ := hO4.form; have HO4 := mkH hO4; have HC4 := mkH (And.intro hc1 hc2); have HO3 := mkH (Gr.own_below HO3.out hb4); have HB4 := mkH (HB3.out.trans (hb4.mono HB3.out.size)); clear hO4 hb4 hc1 hc2)
    | (go_at_call 79; refine (cloneQ_any w2 qa qc cf (HQ.out.below HB2.out) (by have := HN.out; omega)).mono ?_; rintro e3 w3 ⟨a3, c3, rfl, hO3, hb3⟩; have HO3 := mkH hO3; have HB3 := mkH (HB2.out.trans (hb3.mono HB2.out.size)); clear hO3 hb3)
    | (go_at_call 78; refine (areApart_any w1 sa sc sv (HS.out.below HB1.out) HL.out).mono ?_; rintro e2 w2 ⟨rfl, hb2⟩; rw [HA.out]; have HB2 := mkH (HB1.out.trans (hb2.mono HB1.out.size)); clear hb2)
    | (go_at_call 77; refine HM.out.mono ?_; rintro e1 w1 ⟨rfl, hb1⟩; have HB1 := mkH hb1; clear hb1))
  have hal : Below w4.heap.size w4 (w4.alloc (.map #[] 0)) := (Below.refl _ _).alloc (Nat.le_refl _) _
  have hal2 : Below (w4.alloc (.map #[] 0)).heap.size (w4.alloc (.map #[] 0)) ((w4.alloc (.map #[] 0)).alloc (.cells #[.slice a3 cf.length c3, .slice a4 (join sv).length c4, .map (some w4.heap.size)] 161)) := (Below.refl _ _).alloc (Nat.le_refl _) _
  have hB := Bx.new1 w4 (.map #[] 0) #[.slice a3 cf.length c3, .slice a4 (join sv).length c4, .map (some w4.heap.size)] 161
  have hsz := HB4.out.size
  have hq4 := Gr.own_below (Gr.own_below HO3.out hal) hal2
  have hs4 := (HO4.out.below hal).below hal2
  have hbb := (HB4.out.trans (hal.mono hsz)).trans (hal2.mono (Nat.le_trans hsz hal.size))
  go_ret2
  refine ⟨w4.heap.size + 1, w4.heap.size, a3, c3, a4, c4, rfl, ⟨hB, Gr.RowS.own cfC_len hq4, hs4.rw, Ty.own hq4, Ty.own hs4, (Mg.made w4).below hal2, fun x hx => (by cases hx), HN.out.1, HN.out.2, ⟨Gr.own_le hq4, own_cap hq4⟩, HC4.out⟩, hsz, by omega, hbb⟩

theorem tb_bel0 {w w0 : World} (h : Dt.Tb w) (hb : Below w.heap.size w w0) : Dt.Tb w0 := tb_bel h hb
set_option maxHeartbeats 8000000 in
theorem Do_send {w : World} {Xb Mb : Nat} {cf : List Cf} {sv : List Rg} {xs : List X} {qa : Option Addr} {qc : Nat} {sa : Option Addr} {sc : Nat} (h : Ex w Xb Mb cf sv xs qa qc sa sc) (c : Cm) (d : Value) (ab : Option Addr) (ac : Nat) (hk : c.kind = 1) (htm : isT c.time) (hse : isT c.secs)
    (hTb : Dt.Tb w) (hgl : c.group.length ≤ 1000000000) (hbody : c.body.length ≤ 100000) (hln : xs.length ≤ 1000000) (hsv : sv.length ≤ 1000000) (hnx : (lookG cf (xs.map X.p) c.queue (S c.group) c.time).next + 1 ≤ 1152921504606846976) :
    Calls Tryz.prog 155 #[.pointer (some ⟨Xb, 0, none⟩), .agg (Cv c d), .slice ab 0 ac] w fun e w' => SdP w Xb Mb cf sv xs qa qc sa sc c (isInP sv (S c.group)) e w' := by
  have HX := mkH h
  have HT := mkH hTb
  have HG := mkH hgl
  have HBD := mkH hbody
  have HLN := mkH hln
  have HSV := mkH hsv
  have HNX := mkH hnx
  have HTM : Hid (Sm c.time) := mkH (by unfold isT at htm; unfold Sm; omega)
  have d1 : decide (isT c.time) = true := by simpa using htm
  have d2 : decide (isT c.secs) = true := by simpa using hse
  have HS0 := mkH (And.intro (((Below.refl w.heap.size w).alloc (Nat.le_refl _) (.cells (Cv c d) 39)).alloc (by simp) (.cells (Wa.Pv Wi.Rp.none none 0 none 0 none 0) 46)) ((Bx.new w (Cv c d) 39).alloc (.cells (Wa.Pv Wi.Rp.none none 0 none 0 none 0) 46)))
  have HR := mkH (Bx.new1 w (.cells (Cv c d) 39) (Wa.Pv Wi.Rp.none none 0 none 0 none 0) 46)
  clear h hTb hgl hbody hln hsv hnx htm hse
  go_enter Tryz.func155, Tryz.ntmps155
  go_upto_region 1 with fail
  change Code.wp _ _ _ _ ((w.alloc (.cells (Cv c d) 39)).alloc (.cells (Wa.Pv Wi.Rp.none none 0 none 0 none 0) 46))
  generalize (w.alloc (.cells (Cv c d) 39)).alloc (.cells (Wa.Pv Wi.Rp.none none 0 none 0 none 0) 46) = w0 at *
  obtain ⟨R, hR⟩ : ∃ R, w.heap.size + 1 = R := ⟨_, rfl⟩
  rw [hR] at HR ⊢
  have hwR : w.heap.size < R := by omega
  clear hR
  have HX0 := mkH (HX.out.below HS0.out.1)
  have c0 : w0.cell? ⟨w.heap.size, 0, none⟩ = some (.int .i64 c.kind) := HS0.out.2.cell 0 _ rfl
  have c3 : w0.cell? ⟨w.heap.size, 3, none⟩ = some (.int .i64 c.time) := HS0.out.2.cell 3 _ rfl
  have c10 : w0.cell? ⟨w.heap.size, 10, none⟩ = some (.int .i64 c.secs) := HS0.out.2.cell 10 _ rfl
  have hld : (loadVar 39 ⟨w.heap.size, 0, none⟩).run Tryz.prog w0 = .ok (.agg (Cv c d)) w0 := Wk.load_bx (P := Tryz.prog) HS0.out.2 Tryz.underlying39 rfl (by kernel_rfl)
  have HLD := mkH hld
  clear hld
  rw [hk] at c0
  have HAB : Hid (∀ W, Below w0.heap.size w0 W → Calls Tryz.prog 266 #[.pointer (some ⟨Xb, 0, none⟩), .string (S c.group), .slice ab 0 ac] W fun e w' => e = .returned (.bool (isInP sv (S c.group))) ∧ Below W.heap.size W w') :=
    mkH (fun W hW => isAbout_nil (HX0.out.below hW) HSV.out (S c.group) (by rw [S_size]; have := HG.out; omega) ab ac)
  go_wp2_with (first
    | (go_at_call 104; refine (isMade_yes HX0.out.bx HX0.out.n0).mono ?_; rintro e1 w1 ⟨rfl, h1⟩; have h2 := h1.symm; clear h1; subst h2)
    | (go_at_call 222; refine (isTime_any _ _).mono ?_; rintro e1 w1 ⟨rfl, h1⟩; have h2 := h1.symm; clear h1; subst h2)
    | (refine wpList_ld (ty := 39) (x := .tmp 4) (p := ⟨w.heap.size, 0, none⟩) (v := .agg (Cv c d)) rfl rfl rfl HLD.out ?_)
    | (go_at_call 223; refine (send_any HX0.out c d (.slice ab 0 ac) (isInP sv (S c.group)) HAB.out (tb_bel0 HT.out HS0.out.1) HTM.out HG.out (by rw [S_size]; exact HBD.out) HLN.out HNX.out).mono ?_; rintro e3 w3 ⟨xs3, rfl, hx3, hE3, hF3⟩; have HX3 := mkH hE3; have HXS := mkH hx3; have HF3 := mkH hF3; have HR3 := mkH (HR.out.fr hF3 (fun e => HX0.out.m.bare ⟨R, 0, none⟩ _ (HR.out.cell 0 _ rfl) e)); clear hE3 hx3 hF3)
    | (refine wpList_st rfl (ty := 46) (x := .tmp 6) (y := .tmp 34) (b := R) (cs := Pv (sndR cf (xs.map X.p) (isInP sv (S c.group)) c) none 0 none 0 none 0) (old := Wa.Pv Wi.Rp.none none 0 none 0 none 0) (t := 46) rfl rfl rfl HR3.out Wa.infoP rfl (Wa.Pv_one _ _ _ _ _ _ _) ?_))
  have hR4 := HR3.out.row (cs := Pv (sndR cf (xs.map X.p) (isInP sv (S c.group)) c) none 0 none 0 none 0)
  have hF8 : Fr (fun k => k = R) w3 (w3.setRow R (Pv (sndR cf (xs.map X.p) (isInP sv (S c.group)) c) none 0 none 0 none 0)) := Bx.frrow _
  have hFw : Fr (fun k => k = Mb) w w3 := (Fr.ofBelow HS0.out.1).trans HF3.out (fun k hk => .inl hk)
  refine bodyPost_ret (res_c rfl _ _ _ rfl (Wa.load_pv hR4)) rfl ⟨xs3, rfl, HXS.out, HX3.out.other hF8 HR3.out (by decide) (by decide) (by decide) (by decide) (by decide), hFw.trans hF8 (fun k hk => .inr (by omega))⟩
end Go.Proofs.YtgbbajeeelgbhaaGreatDoor.Qg

namespace Go.Proofs.YtgbbajeeelgbhaaGreatDoor.Ww
open Go.RowKit Kt Pl Wi Wk Wr
open At (RowT okT)
set_option linter.unusedVariables false
set_option maxRecDepth 20000

/-- What lies in no block of bytes stays. -/
structure U8 (w w' : World) : Prop where
  os : w'.os = w.os
  tape : w'.tape = w.tape
  output : w'.output = w.output
  size : w.heap.size ≤ w'.heap.size
  block : ∀ k, k < w.heap.size → (∀ cs fz, w.heap[k]? ≠ some (.cells cs 5 fz)) → w'.heap[k]? = w.heap[k]?
theorem U8.refl (w : World) : U8 w w := ⟨rfl, rfl, rfl, Nat.le_refl _, fun _ _ _ => rfl⟩
theorem U8.trans {a b c : World} (h : U8 a b) (k : U8 b c) : U8 a c :=
  ⟨k.os.trans h.os, k.tape.trans h.tape, k.output.trans h.output, Nat.le_trans h.size k.size, fun i hi hn => (k.block i (Nat.lt_of_lt_of_le hi h.size) (by rw [h.block i hi hn]; exact hn)).trans (h.block i hi hn)⟩
theorem U8.ofBelow {w w' : World} (h : Below w.heap.size w w') : U8 w w' := ⟨h.os, h.tape, h.output, h.size, fun k hk _ => h.block k hk⟩
theorem U8.ofGr {w w' : World} (h : Gr w w') : U8 w w' := U8.ofBelow h.below
theorem U8.alloc {a w : World} (h : U8 a w) (o : Obj) : U8 a (w.alloc o) := h.trans (U8.ofGr ((Gr.refl w).alloc o))
theorem U8.drew {a w : World} (h : U8 a w) : U8 a w.drew := h.trans (U8.ofGr ((Gr.refl w).drew))
theorem U8.grown {w w' : World} {base n : Nat} {v : Value} {xs : List Value} (h : w.ownsRow base 5 1 v n xs) (hg : w.grownBy w' v.ownBlock) : U8 w w' := by
  refine ⟨hg.os, hg.tape, hg.output, hg.size, fun k hk hn => hg.block k hk (fun e => ?_)⟩
  rcases h.2 with ⟨e1, e2⟩ | ⟨g, c, cur, e1, _, hb, _⟩
  · rw [e1] at e; simp [Value.ownBlock] at e
  · rw [e1] at e
    have : k = g := by simpa [Value.ownBlock] using e
    subst this
    exact hn _ _ hb
theorem Bx.u8 {w w' : World} {b : Nat} {cs : Array Value} {t : TypeId} (h : Bx w b cs t) (ht : t ≠ 5) (hu : U8 w w') : Bx w' b cs t := by
  unfold Bx
  rw [hu.block b h.lt (fun cs' fz e => ?_)]
  · exact h
  · rw [show w.heap[b]? = _ from h] at e
    injection e with e
    injection e with _ e2
    exact ht e2

/-- A writer: it owns these bytes, from a base on. -/
def Wt (w : World) (base : Nat) (v : Value) (bs : Bs) : Prop := w.ownsRow base 5 1 v bs.length (U bs)
theorem Wt.gr {w w' : World} {base : Nat} {v : Value} {bs : Bs} (h : Wt w base v bs) (hg : Gr w w') : Wt w' base v bs := by
  refine ⟨h.1, ?_⟩
  rcases h.2 with h1 | ⟨g, c, cur, e1, h2, h3, h4⟩
  · exact .inl h1
  · exact .inr ⟨g, c, cur, e1, h2, (hg.below.block g (Array.getElem?_eq_some_iff.1 h3).1).trans h3, h4⟩
theorem Wt.below {w w' : World} {base : Nat} {v : Value} {bs : Bs} (h : Wt w base v bs) (hg : Below w.heap.size w w') : Wt w' base v bs := by
  refine ⟨h.1, ?_⟩
  rcases h.2 with h1 | ⟨g, c, cur, e1, h2, h3, h4⟩
  · exact .inl h1
  · exact .inr ⟨g, c, cur, e1, h2, (hg.block g (Array.getElem?_eq_some_iff.1 h3).1).trans h3, h4⟩
theorem below_down {w w' : World} {base : Nat} (h : Below w.heap.size w w') (hb : base ≤ w.heap.size) : Below base w w' := ⟨h.os, h.tape, h.output, h.size, fun j hj => h.block j (by omega)⟩
theorem Wt.new (w : World) : Wt (w.alloc (.cells #[] 5)) w.heap.size (.slice (some ⟨w.heap.size, 0, none⟩) 0 0) [] :=
  World.ownsRow_made (e := 5) (size := 1) w #[] 0 (Nat.le_refl _) (Nat.zero_le _) rfl
theorem Wt.mono {w : World} {base base' : Nat} {v : Value} {bs : Bs} (h : Wt w base' v bs) (hb : base ≤ base') : Wt w base v bs := by
  refine ⟨h.1, ?_⟩
  rcases h.2 with h1 | ⟨g, c, cur, e1, h2, h3⟩
  · exact .inl h1
  · exact .inr ⟨g, c, cur, e1, Nat.le_trans hb h2, h3⟩
theorem Wt.form {w : World} {base : Nat} {v : Value} {bs : Bs} (h : Wt w base v bs) : ∃ ao cap, v = .slice ao bs.length cap := own_form h

/-- What a call of the writer leaves. -/
def Wrote (w : World) (base : Nat) (bs : Bs) (e : Ending) (w' : World) : Prop := ∃ v', e = .returned v' ∧ Wt w' base v' bs ∧ Below base w w' ∧ U8 w w'

theorem info5 : (Tryz.prog.info? 5).map (fun i => (i.zero, i.size, i.bytes)) = some (some (.int .u8 0), 1, 1) := by kernel_rfl

set_option maxHeartbeats 400000 in
theorem add_any (w : World) (base : Nat) (v : Value) (bs part : Bs) (ao : Option Addr) (cap : Nat) (e0 : Value) (hw : Wt w base v bs) (hb : base ≤ w.heap.size) (hr : Row w ao part) (hl : bs.length + part.length ≤ 3000000000) :
    Calls Tryz.prog 343 #[v, .slice ao part.length cap, e0] w fun e w' => Wrote w base (bs ++ part) e w' := by
  unfold Wt at hw
  go_enter Tryz.func343, Tryz.ntmps343
  go_wp2_with (at_builtin; refine wpList_append_own_src _ rfl (.tmp 7) (.tmp 8) 358 41 rfl base 5 (.int .u8 0) 1 1 Tryz.underlying358 info5 rfl (by decide) _ bs.length (U bs) rfl hw _ part.length (U part) rfl (Row.src Tryz.underlying41 hr cap) (by unfold maxLen; omega) (by omega) hb ?_; intro v2 w2 hown2 hgrow2)
  go_ret
  refine ⟨v2, rfl, ?_, below_own hw hgrow2 (Below.refl _ _) hb, U8.grown hw hgrow2⟩
  unfold Wt
  rw [List.length_append, U_append]
  exact hown2

theorem flat_take (l : List Int) (k : Nat) (x : Int) (hx : l[k]? = some x) : (l.take (k + 1)).flatMap encN = (l.take k).flatMap encN ++ encN x := by
  rw [List.take_add_one, hx, List.flatMap_append]; simp
theorem flat_len (l : List Int) (hok : ∀ x ∈ l, 0 ≤ x ∧ x ≤ 4611686018427387904) : (l.flatMap encN).length ≤ 9 * l.length := by
  induction l with
  | nil => simp
  | cons x l ih =>
    have h1 := ih (fun y hy => hok y (by simp [hy]))
    have h2 := hok x (by simp)
    have h3 : (encN x).length ≤ 9 := enc_len9 (by omega)
    simp only [List.flatMap_cons, List.length_append, List.length_cons]
    omega

set_option maxHeartbeats 2000000 in
theorem nums_any (w : World) (base : Nat) (v : Value) (bs : Bs) (hw : Wt w base v bs) (hb : base ≤ w.heap.size) (hn : bs.length ≤ 1000000000) (b : Nat) (cap : Nat) (l : List Int) (hB : Bx w b (I l).toArray 3) (hl : l.length ≤ 1000) (hok : ∀ x ∈ l, 0 ≤ x ∧ x ≤ 4611686018427387904) :
    Calls Tryz.prog 284 #[v, .slice (some ⟨b, 0, none⟩) l.length cap] w fun e w' => Wrote w base (bs ++ l.flatMap encN) e w' := by
  have HB := mkH hB
  have HO := mkH hok
  have HW := mkH hw
  clear hB hok hw
  go_enter Tryz.func284, Tryz.ntmps284
  go_wp2
  go_loopw [0, 6, 9] (fun v1 _ i wr => ∃ k : Nat, k ≤ l.length ∧ i = .int .i64 k ∧ Hid (Wt wr base v1 (bs ++ (l.take k).flatMap encN)) ∧ Hid (Below base w wr) ∧ Hid (U8 w wr)) (fun _ _ i _ => l.length - (intOf i).toNat)
  case atStart => exact ⟨0, Nat.zero_le _, rfl, mkH (by simpa using HW.out), mkH (Below.refl _ _), mkH (U8.refl _)⟩
  case round =>
    obtain ⟨k, hk, rfl, HW1, HBe, HU⟩ := hrel
    have hsz := HBe.out.size
    have hlen : ((l.take k).flatMap encN).length ≤ 9 * 1000 := by
      have h1 := flat_len (l.take k) (fun x hx => HO.out x (List.mem_of_mem_take hx))
      have h2 : (l.take k).length ≤ 1000 := by rw [List.length_take]; omega
      omega
    by_cases hlt : k < l.length
    · obtain ⟨x, hx⟩ : ∃ x, l[k]? = some x := ⟨_, List.getElem?_eq_getElem hlt⟩
      have hxo := HO.out x (List.mem_of_getElem? hx)
      have hB1 := Ww.Bx.u8 HB.out (by decide) HU.out
      have hck : wr.cell? ⟨b, k, none⟩ = some (.int .i64 x) := by rw [hB1.cell]; simp [Wk.I, hx]
      obtain ⟨m, rfl⟩ : ∃ m : Nat, x = (m : Int) := ⟨x.toNat, by omega⟩
      have HX := mkH hx
      have hm : m ≤ 4611686018427387904 := by omega
      have HM := mkH hm
      clear hx hB1 hm hxo
      go_wp2_with fail
      refine (num_ok wr none 0 m [] (Row.nil _ _) (by simp) HM.out).mono ?_
      rintro e w1 ⟨v2, rfl, hown2, hb2⟩
      rw [List.nil_append] at hown2
      have hl0 : ([] : List UInt8).length + (enc m).length = (enc m).length := by simp
      rw [hl0] at hown2
      obtain ⟨ao2, cap2, rfl⟩ := own_form hown2
      obtain ⟨-, -, hr2⟩ := Row.own hown2
      have h9 := enc_len9 HM.out
      have hgr : U8 wr w1 := U8.ofBelow hb2
      have hW1 : Wt w1 base u0 (bs ++ (l.take k).flatMap encN) := by
        refine ⟨HW1.out.1, ?_⟩
        rcases HW1.out.2 with h1 | ⟨g, c, cur, e1, h2, h3, h4⟩
        · exact .inl h1
        · exact .inr ⟨g, c, cur, e1, h2, (hb2.block g (Array.getElem?_eq_some_iff.1 h3).1).trans h3, h4⟩
      have hsz2 := hb2.size
      have HA := add_any w1 base u0 (bs ++ (l.take k).flatMap encN) (enc m) ao2 cap2 (.int .i64 0) hW1 (by omega) hr2 (by rw [List.length_append]; omega)
      have HF : Hid (bs ++ (l.take (k + 1)).flatMap encN = bs ++ (l.take k).flatMap encN ++ enc m) := mkH (by rw [flat_take _ _ _ HX.out, List.append_assoc]; rfl)
      have HB2 := mkH (HBe.out.trans (hb2.mono hsz |> fun h => (⟨h.os, h.tape, h.output, h.size, fun j hj => hb2.block j (by omega)⟩ : Below base wr w1)))
      have HU2 := mkH (HU.out.trans hgr)
      clear hown2 hr2 hW1 hb2 hgr HX HM HW1 HBe HU hck
      go_wp2_with fail
      refine HA.mono ?_
      rintro e w3 ⟨v3, rfl, hw3, hb3, hu3⟩
      rw [← HF.out] at hw3
      have HW3 := mkH hw3
      have HB3 := mkH (HB2.out.trans hb3)
      have HU3 := mkH (HU2.out.trans hu3)
      clear HA hw3 hb3 hu3 HB2 HU2 HF
      go_wp2
      go_roundw
      case rel => exact ⟨k + 1, by omega, by go_num, HW3, HB3, HU3⟩
      case measure => simp [intOf]; omega
    · have hW := HW1.out
      rw [List.take_of_length_le (by omega)] at hW
      have HW2 := mkH hW
      clear hW HW1
      go_wp2
      go_ret
      exact ⟨_, rfl, HW2.out, HBe.out, HU.out⟩
theorem flatT_take (l : List Bs) (k : Nat) (x : Bs) (hx : l[k]? = some x) : (l.take (k + 1)).flatMap encText = (l.take k).flatMap encText ++ encText x := by
  rw [List.take_add_one, hx, List.flatMap_append]; simp
theorem flatT_len (l : List Bs) (hok : ∀ x ∈ l, x.length ≤ 4096) : (l.flatMap encText).length ≤ 4105 * l.length := by
  induction l with
  | nil => simp
  | cons x l ih =>
    have h1 := ih (fun y hy => hok y (by simp [hy]))
    have h2 := hok x (by simp)
    have h3 : (encText x).length ≤ 4105 := by unfold encText; rw [List.length_append]; have := enc_len9 (n := x.length) (by omega); omega
    simp only [List.flatMap_cons, List.length_append, List.length_cons]
    omega

set_option maxHeartbeats 2000000 in
theorem texts_any (w : World) (base : Nat) (v : Value) (bs : Bs) (hw : Wt w base v bs) (hb : base ≤ w.heap.size) (hn : bs.length ≤ 1000000000) (b : Nat) (cap : Nat) (l : List Bs) (hB : Bx w b (T l).toArray 9) (hl : l.length ≤ 1000) (hok : ∀ x ∈ l, x.length ≤ 4096) :
    Calls Tryz.prog 320 #[v, .slice (some ⟨b, 0, none⟩) l.length cap] w fun e w' => Wrote w base (bs ++ l.flatMap encText) e w' := by
  have HB := mkH hB
  have HO := mkH hok
  have HW := mkH hw
  clear hB hok hw
  go_enter Tryz.func320, Tryz.ntmps320
  go_wp2
  go_loopw [0, 6, 9] (fun v1 _ i wr => ∃ k : Nat, k ≤ l.length ∧ i = .int .i64 k ∧ Hid (Wt wr base v1 (bs ++ (l.take k).flatMap encText)) ∧ Hid (Below base w wr) ∧ Hid (U8 w wr)) (fun _ _ i _ => l.length - (intOf i).toNat)
  case atStart => exact ⟨0, Nat.zero_le _, rfl, mkH (by simpa using HW.out), mkH (Below.refl _ _), mkH (U8.refl _)⟩
  case round =>
    obtain ⟨k, hk, rfl, HW1, HBe, HU⟩ := hrel
    have hsz := HBe.out.size
    have hlen : ((l.take k).flatMap encText).length ≤ 4105 * 1000 := by
      have h1 := flatT_len (l.take k) (fun x hx => HO.out x (List.mem_of_mem_take hx))
      have h2 : (l.take k).length ≤ 1000 := by rw [List.length_take]; omega
      omega
    by_cases hlt : k < l.length
    · obtain ⟨x, hx⟩ : ∃ x, l[k]? = some x := ⟨_, List.getElem?_eq_getElem hlt⟩
      have hxo := HO.out x (List.mem_of_getElem? hx)
      have hB1 := Ww.Bx.u8 HB.out (by decide) HU.out
      have hck : wr.cell? ⟨b, k, none⟩ = some (.string (S x)) := by rw [hB1.cell]; simp [T, hx]
      have HX := mkH hx
      have HM := mkH hxo
      clear hx hB1 hxo
      go_wp2_with fail
      refine (text_ok wr none 0 (S x) [] (Row.nil _ _) (by simp) HM.out).mono ?_
      rintro e w1 ⟨v2, rfl, hown2, hb2⟩
      rw [List.nil_append] at hown2
      change w1.ownsRow wr.heap.size 5 1 v2 (([] : List UInt8).length + (encText x).length) (U (encText x)) at hown2
      have hl0 : ([] : List UInt8).length + (encText x).length = (encText x).length := by simp
      rw [hl0] at hown2
      obtain ⟨ao2, cap2, rfl⟩ := own_form hown2
      obtain ⟨-, -, hr2⟩ := Row.own hown2
      have h9 : (encText x).length ≤ 4105 := by unfold encText; rw [List.length_append]; have := enc_len9 (n := x.length) (by have := HM.out; omega); have := HM.out; omega
      have hgr : U8 wr w1 := U8.ofBelow hb2
      have hW1 : Wt w1 base u0 (bs ++ (l.take k).flatMap encText) := by
        refine ⟨HW1.out.1, ?_⟩
        rcases HW1.out.2 with h1 | ⟨g, c, cur, e1, h2, h3, h4⟩
        · exact .inl h1
        · exact .inr ⟨g, c, cur, e1, h2, (hb2.block g (Array.getElem?_eq_some_iff.1 h3).1).trans h3, h4⟩
      have hsz2 := hb2.size
      have HA := add_any w1 base u0 (bs ++ (l.take k).flatMap encText) (encText x) ao2 cap2 (.int .i64 0) hW1 (by omega) hr2 (by rw [List.length_append]; omega)
      have HF : Hid (bs ++ (l.take (k + 1)).flatMap encText = bs ++ (l.take k).flatMap encText ++ encText x) := mkH (by rw [flatT_take _ _ _ HX.out, List.append_assoc])
      have HB2 := mkH (HBe.out.trans (hb2.mono hsz |> fun h => (⟨h.os, h.tape, h.output, h.size, fun j hj => hb2.block j (by omega)⟩ : Below base wr w1)))
      have HU2 := mkH (HU.out.trans hgr)
      clear hown2 hr2 hW1 hb2 hgr HX HM HW1 HBe HU hck
      go_wp2_with fail
      refine HA.mono ?_
      rintro e w3 ⟨v3, rfl, hw3, hb3, hu3⟩
      rw [← HF.out] at hw3
      have HW3 := mkH hw3
      have HB3 := mkH (HB2.out.trans hb3)
      have HU3 := mkH (HU2.out.trans hu3)
      clear HA hw3 hb3 hu3 HB2 HU2 HF
      go_wp2
      go_roundw
      case rel => exact ⟨k + 1, by omega, by go_num, HW3, HB3, HU3⟩
      case measure => simp [intOf]; omega
    · have hW := HW1.out
      rw [List.take_of_length_le (by omega)] at hW
      have HW2 := mkH hW
      clear hW HW1
      go_wp2
      go_ret
      exact ⟨_, rfl, HW2.out, HBe.out, HU.out⟩

set_option maxHeartbeats 400000 in
theorem data_any (w : World) (base : Nat) (v : Value) (bs : Bs) (hw : Wt w base v bs) (hb : base ≤ w.heap.size) (hn : bs.length ≤ 1000000000) (ao : Option Addr) (cap : Nat) (l : List Bs) (hr : RowT w ao l) (hl : l.length ≤ 1024) (hok : ∀ x ∈ l, x.length ≤ 4096) :
    Calls Tryz.prog 286 #[v, .slice ao l.length cap] w fun e w' => Wrote w base (bs ++ encList encText l) e w' := by
  have HO := mkH hok
  have HW := mkH hw
  have HT := At.texts_any w none 0 [] (Row.nil _ _) (by simp) ao cap l hr hl
  have h9 : (encList encText l).length ≤ 9 + 4105 * 1024 := by
    unfold encList
    rw [List.length_append]
    have h1 := flatT_len l hok
    have h2 := enc_len9 (n := l.length) (by omega)
    omega
  clear hok hw hr
  go_enter Tryz.func286, Tryz.ntmps286
  go_wp2_with fail
  refine HT.mono ?_
  rintro e w1 (⟨hg, v2, rfl, hown2, hb2⟩ | ⟨hg, rfl, hb2⟩)
  · rw [List.nil_append] at hown2
    have hl0 : ([] : List UInt8).length + (encList encText l).length = (encList encText l).length := by simp
    rw [hl0] at hown2
    obtain ⟨ao2, cap2, rfl⟩ := own_form hown2
    obtain ⟨-, -, hr2⟩ := Row.own hown2
    have hsz2 := hb2.size
    have HA := add_any w1 base v bs (encList encText l) ao2 cap2 (.int .i64 0) (HW.out.below hb2) (by omega) hr2 (by omega)
    have HB2 := mkH (below_down hb2 hb)
    have HU2 := mkH (U8.ofBelow hb2)
    clear hown2 hr2 hb2 HT HW hg
    go_wp2_with fail
    refine HA.mono ?_
    rintro e w3 ⟨v3, rfl, hw3, hb3, hu3⟩
    have HW3 := mkH hw3
    have HB3 := mkH (HB2.out.trans hb3)
    have HU3 := mkH (HU2.out.trans hu3)
    clear hw3 hb3 hu3
    go_wp2
    go_ret
    exact ⟨v3, rfl, HW3.out, HB3.out, HU3.out⟩
  · exact absurd (fun x hx => HO.out x hx) hg
end Go.Proofs.YtgbbajeeelgbhaaGreatDoor.Ww

namespace Go.Proofs.YtgbbajeeelgbhaaGreatDoor.Wx
open Go
set_option linter.unusedVariables false

def unl (l : Array Bool) : Nat := l.toList.countP (fun b => !b)
theorem countP_set : ∀ (l : List Bool) (i : Nat), l[i]? = some false → (l.set i true).countP (fun b => !b) + 1 = l.countP (fun b => !b)
  | [], i, h => by simp at h
  | b :: l, 0, h => by simp at h; subst h; simp
  | b :: l, i + 1, h => by
    have := countP_set l i (by simpa using h)
    simp only [List.set_cons_succ, List.countP_cons]
    omega
theorem unl_set {l : Array Bool} {i : Nat} (h : l[i]? = some false) : unl (l.setIfInBounds i true) + 1 = unl l := by
  unfold unl
  rw [Array.toList_setIfInBounds]
  exact countP_set l.toList i (by simpa using h)
theorem getD_false {l : Array Bool} {i : Nat} (h : l.getD i true = false) : l[i]? = some false := by
  by_cases hi : i < l.size
  · rw [Array.getElem?_eq_getElem hi]; simp [Array.getD, hi] at h; rw [h]
  · simp [Array.getD, hi] at h
theorem getD_true {l : Array Bool} {i : Nat} (h : l.getD i false = true) : l[i]? = some true := by
  by_cases hi : i < l.size
  · rw [Array.getElem?_eq_getElem hi]; simp [Array.getD, hi] at h; rw [h]
  · simp [Array.getD, hi] at h

section
variable {P : Program} {ops : Array Oper} {Q : Exit → Act → World → Prop} {S : World → Prop} {md : Region.Mode}

theorem ready_nil {listed : Array Bool} (h : unl listed = 0) : Region.ready md ops listed = [] := by
  apply List.eq_nil_iff_forall_not_mem.2
  intro i hi
  have h1 := getD_false (mem_ready.1 hi).1
  have := unl_set h1
  omega

/-- Whatever order: what is kept by each operation that may come. -/
theorem wpAnyH_inv (Inv : Array Bool → Act → World → Prop)
    (step : ∀ listed a w, Inv listed a w → S w → ∀ i ∈ Region.ready md ops listed, wpOp P ops Q i (fun a' w' => S w' ∧ Inv (listed.setIfInBounds i true) a' w') a w)
    (fin : ∀ listed a w, Inv listed a w → S w → Region.ready md ops listed = [] → Q .normal a w) :
    ∀ (fuel : Nat) (listed : Array Bool) (a : Act) (w : World), unl listed ≤ fuel → Inv listed a w → S w → wpAnyH P md ops Q S fuel listed a w
  | 0, listed, a, w, hf, hI, hS => ⟨ready_nil (by omega), fin listed a w hI hS (ready_nil (by omega))⟩
  | fuel + 1, listed, a, w, hf, hI, hS => by
    refine ⟨fun h => fin listed a w hI hS h, fun i hi => ?_⟩
    have h1 := unl_set (getD_false (mem_ready.1 hi).1)
    exact wpOp_mono (fun a' w' h => ⟨h.1, wpAnyH_inv Inv step fin fuel _ a' w' (by omega) h.2 h.1⟩) (step listed a w hI hS i hi)

/-- A frame in which some slots hold what x says. -/
def puts (dst : Nat → Tmp) (a0 : Act) (x : Nat → Value) : List Nat → Act
  | [] => a0
  | i :: U => (puts dst a0 x U).put (some (dst i)) (x i)
theorem put_put (a : Act) (d : Tmp) (u v : Value) : (a.put (some d) u).put (some d) v = a.put (some d) v := by
  simp [Act.put, Array.setIfInBounds_setIfInBounds]
theorem put_comm (a : Act) {d e : Tmp} (u v : Value) (h : d ≠ e) : (a.put (some d) u).put (some e) v = (a.put (some e) v).put (some d) u :=
  Act.put_comm a u v (fun d' hd he => by cases hd; cases he; exact h rfl)
theorem puts_same {dst : Nat → Tmp} {a0 : Act} {x : Nat → Value} {j : Nat} {v : Value} : ∀ (U : List Nat), j ∉ U → puts dst a0 (fun k => if k = j then v else x k) U = puts dst a0 x U
  | [], _ => rfl
  | i :: U, h => by
    rw [List.mem_cons, not_or] at h
    unfold puts
    rw [puts_same U h.2]
    simp [show i ≠ j from fun e => h.1 e.symm]
theorem puts_put {dst : Nat → Tmp} {a0 : Act} {x : Nat → Value} {j : Nat} {v : Value} : ∀ (U : List Nat), j ∈ U → U.Nodup → (∀ i ∈ U, ∀ k ∈ U, dst i = dst k → i = k) →
    (puts dst a0 x U).put (some (dst j)) v = puts dst a0 (fun k => if k = j then v else x k) U
  | [], h, _, _ => by cases h
  | i :: U, h, hn, hd => by
    rw [List.nodup_cons] at hn
    by_cases hij : i = j
    · subst hij
      simp only [puts]
      rw [put_put, puts_same U hn.1]
      simp
    · have hj : j ∈ U := by
        rcases List.mem_cons.1 h with h | h
        · exact absurd h.symm hij
        · exact h
      simp only [puts]
      rw [put_comm _ _ _ (fun e => hij (hd i (by simp) j (by simp [hj]) e)), puts_put U hj hn.2 (fun a ha b hb => hd a (by simp [ha]) b (by simp [hb]))]
      simp [hij]

/-- What is asked of a region's shape: all but U has come; who takes what; those that write come one behind the other. -/
def shape (md : Region.Mode) (ops : Array Oper) (U : List Nat) (dst cons : Nat → Nat) (deps : Nat → List Nat) (isW : Nat → Bool) (pre : List Nat) (listed : Array Bool) : Bool :=
  (List.range listed.size).all (fun j => U.contains j || listed[j]? == some true) &&
  U.all (fun i => (if pre.contains i then listed[i]? == some true && (!isW i || U.all (fun k => !isW k || !decide (k < i))) else listed[i]? == some false) && U.all (fun k => dst i != dst k || i == k) && (deps i).all (fun d => U.contains d && cons d == i && ((ops[i]?).map fun o => o.after.toList.any fun e => Region.binds md e && e.on == d).getD false)) &&
  U.all (fun j => !isW j || U.all (fun i => !isW i || !decide (i < j) || ((deps j).any (fun p => isW p && decide (i ≤ p)) && decide (cons i ≤ j) && isW (cons i) && U.contains (cons i)))) &&
  U.all (fun i => ((ops[i]?).map fun o => o.after.toList.all fun e => decide (e.on < i)).getD false)

/-- Whatever order comes: each operation finds what it takes, and leaves what it makes. -/
theorem wpAnyH_linear (U : List Nat) (dst cons : Nat → Nat) (deps : Nat → List Nat) (isW : Nat → Bool) (pre : List Nat) (F : Nat → Value → World → Prop) (R0 R1 : World → World → Prop) (a0 : Act) (x0 : Nat → Value) (listed0 : Array Bool) (w0 : World) (fuel : Nat)
    (hU : U.Nodup) (hsh : shape md ops U dst cons deps isW pre listed0 = true)
    (s0 : ∀ i ∈ U, ∀ v w w', F i v w → R0 w w' → F i v w') (s1 : ∀ i ∈ U, isW i = false → ∀ v w w', F i v w → R1 w w' → F i v w')
    (step : ∀ i ∈ U, i ∉ pre → ∀ x w, S w → (∀ d ∈ deps i, F d (x d) w) → wpOp P ops Q i (fun a' w' => ∃ v, a' = (puts dst a0 x U).put (some (dst i)) v ∧ S w' ∧ F i v w' ∧ (if isW i then R1 w w' else R0 w w')) (puts dst a0 x U) w)
    (fin : ∀ x w, S w → (∀ i ∈ U, cons i ∉ U → F i (x i) w) → Q .normal (puts dst a0 x U) w)
    (hpre : ∀ i ∈ pre, F i (x0 i) w0) (hf : unl listed0 ≤ fuel) (hS : S w0) (hc : ∀ i ∈ U, cons i ∉ U → ops.size ≤ cons i) (hz : listed0.size = ops.size) : wpAnyH P md ops Q S fuel listed0 (puts dst a0 x0 U) w0 := by
  simp only [shape, Bool.and_eq_true, List.all_eq_true, List.mem_range, Bool.or_eq_true, List.contains_iff_mem, beq_iff_eq, Bool.not_eq_true', List.any_eq_true, decide_eq_true_eq, decide_eq_false_iff_not, bne_iff_ne, ne_eq] at hsh
  obtain ⟨⟨⟨g1, g2⟩, g3⟩, g4⟩ := hsh
  have hin : ∀ i ∈ U, (i ∈ pre ∧ listed0[i]? = some true ∧ (isW i = true → ∀ k ∈ U, isW k = true → ¬ k < i)) ∨ (i ∉ pre ∧ listed0[i]? = some false) := fun i hi => by
    have h1 := (g2 i hi).1.1
    by_cases hp : i ∈ pre
    · left
      rw [if_pos hp] at h1
      simp only [Bool.and_eq_true, beq_iff_eq, Bool.or_eq_true, Bool.not_eq_true', List.all_eq_true, decide_eq_false_iff_not] at h1
      refine ⟨hp, h1.1, fun hw k hk hwk => ?_⟩
      rcases h1.2 with h | h
      · rw [hw] at h; cases h
      · rcases h k hk with h | h
        · rw [hwk] at h; cases h
        · exact h
    · right
      rw [if_neg hp] at h1
      exact ⟨hp, by simpa using h1⟩
  have hd : ∀ i ∈ U, ∀ k ∈ U, dst i = dst k → i = k := fun i hi k hk e => (((g2 i hi).1.2) k hk).resolve_left (fun h => h e)
  have hdep : ∀ i ∈ U, ∀ d ∈ deps i, d ∈ U ∧ cons d = i ∧ ((ops[i]?).map fun o => o.after.toList.any fun e => Region.binds md e && e.on == d).getD false = true := fun i hi d hd => by
    have := (g2 i hi).2 d hd
    exact ⟨this.1.1, this.1.2, this.2⟩
  have hwr : ∀ j ∈ U, isW j = true → ∀ i ∈ U, isW i = true → i < j → (∃ p ∈ deps j, isW p = true ∧ i ≤ p) ∧ cons i ≤ j ∧ isW (cons i) = true ∧ cons i ∈ U := fun j hj wj i hi wi hij => by
    rcases g3 j hj with h | h
    · rw [wj] at h; cases h
    · rcases h i hi with (h | h) | h
      · rw [wi] at h; cases h
      · exact absurd hij h
      · exact ⟨h.1.1.1, h.1.1.2, h.1.2, h.2⟩
  refine wpAnyH_inv (fun listed a w => ∃ x, a = puts dst a0 x U ∧ listed.size = ops.size ∧ (∀ j, j ∉ U → listed[j]? = listed0[j]?) ∧ (∀ i ∈ U, listed[i]? = some true → listed[cons i]? ≠ some true → F i (x i) w) ∧
      (∀ i ∈ U, ∀ j ∈ U, isW i = true → isW j = true → i < j → listed[j]? = some true → listed[i]? = some true) ∧ (∀ i ∈ U, i ∈ pre → listed[i]? = some true)) ?_ ?_ fuel listed0 _ w0 hf ?_ hS
  · rintro listed a w ⟨x, rfl, hsz, hout, hfact, hcl, hpl⟩ hSw i hi
    obtain ⟨hun, o, ho, haft⟩ := mem_ready.1 hi
    have hun := getD_false hun
    have hilt : i < listed.size := (Array.getElem?_eq_some_iff.1 hun).1
    have hiU : i ∈ U := by
      rcases g1 i (by rw [hz]; omega) with h | h
      · exact h
      · by_cases hiU : i ∈ U
        · exact hiU
        · rw [hout i hiU, h] at hun; cases hun
    have hdl : ∀ d ∈ deps i, listed[d]? = some true := fun d hdm => by
      have h3 := (hdep i hiU d hdm).2.2
      rw [ho] at h3
      simp only [Option.map_some, Option.getD_some, List.any_eq_true, Bool.and_eq_true, beq_iff_eq] at h3
      obtain ⟨e, he, hb, rfl⟩ := h3
      exact getD_true (haft e (by simpa using he) hb)
    have hFd : ∀ d ∈ deps i, F d (x d) w := fun d hdm => by
      have h3 := hdep i hiU d hdm
      refine hfact d h3.1 (hdl d hdm) ?_
      rw [h3.2.1, hun]; simp
    have hip : i ∉ pre := fun h => by have := hpl i hiU h; rw [hun] at this; cases this
    refine wpOp_mono ?_ (step i hiU hip x w hSw hFd)
    rintro a' w' ⟨v, rfl, hS', hFi, hR⟩
    have hset : ∀ k, (listed.setIfInBounds i true)[k]? = if k = i then some true else listed[k]? := fun k => by
      by_cases hk : k = i
      · subst hk; rw [if_pos rfl, Array.getElem?_setIfInBounds_self_of_lt hilt]
      · rw [if_neg hk, Array.getElem?_setIfInBounds_ne (fun e => hk e.symm)]
    refine ⟨hS', fun k => if k = i then v else x k, puts_put U hiU hU hd, by simpa using hsz, fun j hj => ?_, fun k hk hkl hkc => ?_, fun i1 h1 j1 h2 w1 w2 hlt hl => ?_, fun i1 h1 h2 => ?_⟩
    · rw [hset, if_neg (fun (e : j = i) => hj (e ▸ hiU))]; exact hout j hj
    · rw [hset] at hkl hkc
      by_cases hki : k = i
      · subst hki; simpa using hFi
      · rw [if_neg hki] at hkl
        have hci : cons k ≠ i := fun e => by rw [if_pos e] at hkc; exact hkc rfl
        rw [if_neg hci] at hkc
        have hF := hfact k hk hkl hkc
        simp only [hki, if_false]
        cases hwi : isW i with
        | false => rw [hwi] at hR; exact s0 k hk _ _ _ hF (by simpa using hR)
        | true =>
          rw [hwi] at hR
          cases hwk : isW k with
          | false => exact s1 k hk hwk _ _ _ hF (by simpa using hR)
          | true =>
            exfalso
            rcases Nat.lt_or_ge k i with hlt | hge
            · obtain ⟨⟨p, hp, wp, hkp⟩, -⟩ := hwr i hiU hwi k hk hwk hlt
              have hpl := hdl p hp
              have hpU := (hdep i hiU p hp).1
              rcases Nat.lt_or_ge k p with h | h
              · obtain ⟨-, hcp, hcw, hcU⟩ := hwr p hpU wp k hk hwk h
                rcases Nat.lt_or_ge (cons k) p with h5 | h5
                · exact hkc (hcl (cons k) hcU p hpU hcw wp h5 hpl)
                · have : cons k = p := by omega
                  rw [this] at hkc; exact hkc hpl
              · have : k = p := by omega
                subst this
                exact hci (hdep i hiU k hp).2.1
            · have := hcl i hiU k hk hwi hwk (by omega) hkl
              rw [hun] at this; cases this
    · rw [hset] at hl ⊢
      by_cases h3 : i1 = i
      · rw [if_pos h3]
      · rw [if_neg h3]
        by_cases h4 : j1 = i
        · subst h4
          obtain ⟨⟨p, hp, wp, hkp⟩, -⟩ := hwr j1 h2 w2 i1 h1 w1 hlt
          rcases Nat.lt_or_ge i1 p with h | h
          · exact hcl i1 h1 p (hdep j1 h2 p hp).1 w1 wp h (hdl p hp)
          · have : i1 = p := by omega
            rw [this]; exact hdl p hp
        · rw [if_neg h4] at hl
          exact hcl i1 h1 j1 h2 w1 w2 hlt hl
    · rw [hset]
      by_cases h3 : i1 = i
      · rw [if_pos h3]
      · rw [if_neg h3]; exact hpl i1 h1 h2
  · rintro listed a w ⟨x, rfl, hsz, hout, hfact, hcl, hpl⟩ hSw hrd
    have hall : ∀ n i, i < n → i < listed.size → listed[i]? = some true := by
      intro n
      induction n with
      | zero => intro i hi; omega
      | succ n ih =>
        intro i hi hl
        by_cases hiU : i ∈ U
        · by_cases ht : listed[i]? = some true
          · exact ht
          · exfalso
            have hfalse : listed[i]? = some false := by
              rw [Array.getElem?_eq_getElem hl] at ht ⊢
              cases hb : listed[i] with
              | true => rw [hb] at ht; exact absurd rfl ht
              | false => rfl
            have ho : ops[i]? = some ops[i] := Array.getElem?_eq_getElem (by omega)
            have h4 := g4 i hiU
            rw [ho] at h4
            simp only [Option.map_some, Option.getD_some, List.all_eq_true, decide_eq_true_eq] at h4
            have : i ∈ Region.ready md ops listed := mem_ready.2 ⟨by simp [Array.getD, hl, (Array.getElem?_eq_some_iff.1 hfalse).2], ops[i], ho, fun e he hb => by
              have h5 := h4 e (by simpa using he)
              have h6 := ih e.on (by omega) (by omega)
              obtain ⟨h7, h8⟩ := Array.getElem?_eq_some_iff.1 h6
              simp [Array.getD, h7, h8]⟩
            rw [hrd] at this
            cases this
        · rw [hout i hiU]
          rcases g1 i (by omega) with h | h
          · exact absurd h hiU
          · exact h
    refine fin x w hSw (fun i hi hci => hfact i hi (hall (i + 1) i (by omega) ?_) ?_)
    · rcases hin i hi with h | h
      · have := (Array.getElem?_eq_some_iff.1 h.2.1).1; omega
      · have := (Array.getElem?_eq_some_iff.1 h.2).1; omega
    · rw [Array.getElem?_eq_none (by have := hc i hi hci; omega)]; simp
  · refine ⟨x0, rfl, hz, fun _ _ => rfl, fun i hi hl _ => ?_, fun i hi j hj hwi hwj hij hl => ?_, fun i hi hp => ?_⟩
    · rcases hin i hi with h | h
      · exact hpre i h.1
      · rw [h.2] at hl; cases hl
    · rcases hin j hj with h | h
      · exact absurd hij (h.2.2 hwj i hi hwi)
      · rw [h.2] at hl; cases hl
    · rcases hin i hi with h | h
      · exact h.2.1
      · exact absurd hp h.1

theorem put_self (a : Act) (d : Tmp) : a.put (some d) (a.tmps.getD d undef) = a := by
  cases a with
  | mk tmps defers =>
    simp only [Act.put, Act.mk.injEq, and_true]
    apply Array.ext_getElem?
    intro k
    by_cases hk : d = k
    · subst hk
      by_cases hl : d < tmps.size
      · rw [Array.getElem?_setIfInBounds_self_of_lt hl]; simp [Array.getD, hl]
      · rw [Array.getElem?_eq_none (by simpa using hl), Array.getElem?_eq_none (by simpa using hl)]
    · rw [Array.getElem?_setIfInBounds_ne hk]
theorem puts_self (dst : Nat → Tmp) (a : Act) : ∀ U : List Nat, puts dst a (fun i => a.tmps.getD (dst i) undef) U = a
  | [] => rfl
  | i :: U => by unfold puts; rw [puts_self dst a U, put_self]
theorem wpAnyH_lin {fuel : Nat} {listed0 : Array Bool} {a : Act} {w0 : World} (U : List Nat) (dst cons : Nat → Nat) (deps : Nat → List Nat) (isW : Nat → Bool) (pre : List Nat) (F : Nat → Value → World → Prop) (R0 R1 : World → World → Prop)
    (hU : U.Nodup) (hsh : shape md ops U dst cons deps isW pre listed0 = true)
    (s0 : ∀ i ∈ U, ∀ v w w', F i v w → R0 w w' → F i v w') (s1 : ∀ i ∈ U, isW i = false → ∀ v w w', F i v w → R1 w w' → F i v w')
    (step : ∀ i ∈ U, i ∉ pre → ∀ x w, S w → (∀ d ∈ deps i, F d (x d) w) → wpOp P ops Q i (fun a' w' => ∃ v, a' = (puts dst a x U).put (some (dst i)) v ∧ S w' ∧ F i v w' ∧ (if isW i then R1 w w' else R0 w w')) (puts dst a x U) w)
    (fin : ∀ x w, S w → (∀ i ∈ U, cons i ∉ U → F i (x i) w) → Q .normal (puts dst a x U) w)
    (hpre : ∀ i ∈ pre, F i (a.tmps.getD (dst i) undef) w0) (hf : unl listed0 ≤ fuel) (hS : S w0) (hc : ∀ i ∈ U, cons i ∉ U → ops.size ≤ cons i) (hz : listed0.size = ops.size) : wpAnyH P md ops Q S fuel listed0 a w0 := by
  have := wpAnyH_linear (P := P) (Q := Q) (S := S) (md := md) U dst cons deps isW pre F R0 R1 a (fun i => a.tmps.getD (dst i) undef) listed0 w0 fuel hU hsh s0 s1 step fin hpre hf hS hc hz
  rwa [puts_self] at this

theorem wanted_plain {o : Oper} {f : Nat → Option Bool} (hg : o.guard = none) : Region.wanted o f = true := by simp [Region.wanted, hg]
theorem op_value {i : Nat} {o : Oper} {a : Act} {w w' : World} {v : Value} {K : Act → World → Prop} (ho : ops[i]? = some o) (hg : o.guard = none) (hrun : (execOp a.eval o).run P w = .ok (.value v) w') (hK : K (a.put o.dst v) w') : wpOp P ops Q i K a w := by
  refine wpOp_step ho (fun K' hK' => ?_)
  rw [if_pos (wanted_plain hg)]
  unfold Oper.wp
  rw [hrun]
  exact hK' _ _ hK
theorem op_call {i : Nat} {o : Oper} {a : Act} {w : World} {f : FuncId} {args : Array Value} {K : Act → World → Prop} (ho : ops[i]? = some o) (hg : o.guard = none) (hrun : (execOp a.eval o).run P w = .ok (.enter f args) w)
    (H : Calls P f args w fun e w' => ∃ v, e = .returned v ∧ K (a.put o.dst v) w') : wpOp P ops Q i K a w := by
  refine wpOp_step ho (fun K' hK' => ?_)
  rw [if_pos (wanted_plain hg)]
  unfold Oper.wp
  rw [hrun]
  refine Calls.mono H ?_
  rintro e w' ⟨v, rfl, h⟩
  exact hK' _ _ h
/-- One operation that yields its value in every world of the class. -/
theorem q_yield {C : World → Prop} {Q : Act → Prop} {a : Act} {o : Oper} {rest : List Oper} {v : Value} (hw : Region.wanted o (yielded ops a.tmps) = true) (hrun : ∀ w, C w → (execOp a.eval o).run P w = .ok (.value v) w)
    (h : wpQuiet P ops C Q rest (a.put o.dst v)) : wpQuiet P ops C Q (o :: rest) a := by
  unfold wpQuiet
  rw [if_pos hw]
  refine ⟨v, fun w hC => ?_, h⟩
  unfold Oper.quietAt
  rw [hrun w hC]
  exact ⟨rfl, rfl⟩
theorem run_ld {o : Oper} {a : Act} {ty : TypeId} {x : Operand} {p : Addr} {v : Value} {w : World} (ho : o.op = .load ty x) (hx : a.eval x = .pointer (some p)) (h : (loadVar ty p).run P w = .ok v w) : (execOp a.eval o).run P w = .ok (.value v) w := by
  unfold execOp
  simp only [ho, Instr.loadAt, Instr.sureAddr, hx, Sem.run_bind, Sem.run_pure, Result.andThen_ok, h]
end
end Go.Proofs.YtgbbajeeelgbhaaGreatDoor.Wx
