/-
  SessionLast: the walk.
-/
import Derived.Test.YtenkgpfeifflnaaSeL
namespace Go.Proofs.Ytenkgpfeifflnaa.Sla
open Go.RowKit Kt Pl Wi Wk Wa Sm Sa Sb Sc Sd Sf Sl
open Dk (Fr Nx)
open At (RowT)
open Wfr (RpIn)
set_option linter.unusedVariables false
set_option linter.unusedSimpArgs false
set_option maxRecDepth 20000

/-- The table, and the law's maps beside it. -/
structure Lst (B T Mb Lb Sb : Nat) (W : World) (l : List E) (ls : List (Int × Int)) (ys : List Y) : Prop where
  t : ∃ F, Tb W F T Mb l ∧ ∀ k, F k → B ≤ k ∧ k ≠ Lb ∧ k ≠ Sb
  i : MI W Lb ls
  y : MY W Sb ys
  r : ∀ y ∈ ys, RpM W y.r y.ga y.da y.ra
  ne : Lb ≠ Sb
  lb : B ≤ Lb
  sb : B ≤ Sb
theorem Lst.below {B T Mb Lb Sb : Nat} {W W' : World} {l : List E} {ls : List (Int × Int)} {ys : List Y} (h : Lst B T Mb Lb Sb W l ls ys) (hb : Below W.heap.size W W') : Lst B T Mb Lb Sb W' l ls ys := by
  obtain ⟨F, h1, h2⟩ := h.t
  exact ⟨⟨F, h1.below hb, h2⟩, h.i.below hb, h.y.below hb, fun y hy => (h.r y hy).below hb, h.ne, h.lb, h.sb⟩
theorem Lst.note {B T Mb Lb Sb : Nat} {W W' : World} {l l' : List E} {ls : List (Int × Int)} {ys : List Y} (h : Lst B T Mb Lb Sb W l ls ys) {F F' : Nat → Prop} (hF : Tb W F T Mb l) (hFk : ∀ k, F k → B ≤ k ∧ k ≠ Lb ∧ k ≠ Sb) (ht : Tb W' F' T Mb l') (hx : ∀ k, F' k → F k ∨ W.heap.size ≤ k) (hf : Fr (fun k => k = Mb) W W') (hB : B ≤ W.heap.size) : Lst B T Mb Lb Sb W' l' ls ys := by
  obtain ⟨xs, -, hX⟩ := hF
  have hM := hFk Mb hX.fm
  have hb := Mt.bare hX.m
  have h1 := h.i.lt
  have h2 := h.y.lt
  exact ⟨⟨F', ht, fun k hk => by
    rcases hx k hk with q | q
    · exact hFk k q
    · exact ⟨by omega, by omega, by omega⟩⟩, h.i.fr hf (Ne.symm hM.2.1), h.y.fr hf (Ne.symm hM.2.2), fun y hy => rpM_bare (h.r y hy) hf hb, h.ne, h.lb, h.sb⟩
theorem Lst.put1 {B T Mb Lb Sb : Nat} {W W' : World} {l : List E} {ls ls' : List (Int × Int)} {ys : List Y} (h : Lst B T Mb Lb Sb W l ls ys) (hm : MI W' Lb ls') (hf : Fr (fun k => k = Lb) W W') : Lst B T Mb Lb Sb W' l ls' ys := by
  obtain ⟨F, h1, h2⟩ := h.t
  have hb : Bare W Lb := fun a v hc => Mw.cell h.i hc
  exact ⟨⟨F, h1.fr hf (fun k hk => (h2 k hk).2.1), h2⟩, hm, h.y.fr hf (fun e => h.ne e.symm), fun y hy => rpM_bare (h.r y hy) hf hb, h.ne, h.lb, h.sb⟩
theorem Lst.put2 {B T Mb Lb Sb : Nat} {W W' : World} {l : List E} {ls : List (Int × Int)} {ys : List Y} {y : Y} (h : Lst B T Mb Lb Sb W l ls ys) (hm : MY W' Sb (put Y.k ys y)) (hf : Fr (fun k => k = Sb) W W') (hr : RpM W y.r y.ga y.da y.ra) : Lst B T Mb Lb Sb W' l ls (put Y.k ys y) := by
  obtain ⟨F, h1, h2⟩ := h.t
  have hb : Bare W Sb := fun a v hc => Mw.cell h.y hc
  exact ⟨⟨F, h1.fr hf (fun k hk => (h2 k hk).2.2), h2⟩, h.i.fr hf h.ne, hm, fun z hz => by
    rcases mem_put hz with rfl | hz
    · exact rpM_bare hr hf hb
    · exact rpM_bare (h.r z hz) hf hb, h.ne, h.lb, h.sb⟩
/-- What the maps have is what the table has. -/
structure Eq3 (l : List E) (ls : List (Int × Int)) (ys : List Y) : Prop where
  a : ls = l.map (fun e => (e.k, e.n))
  b : ys.map Y.p = l.map (fun e => (e.k, e.r))
  s : Srt E.k l
  r : ∀ e ∈ l, 1 ≤ e.k ∧ e.k ≤ 5 ∧ 1 ≤ e.n ∧ e.n ≤ 20
  c : ∀ e ∈ l, Cnt e.r
theorem Eq3.at1 {l : List E} {ls : List (Int × Int)} {ys : List Y} (h : Eq3 l ls ys) (c : Int) : atX kI ls c = (atX E.k l c).map (fun e => (e.k, e.n)) := by rw [h.a]; exact map_at (kb := kI) _ (fun _ => rfl) l c
theorem Eq3.at2 {l : List E} {ls : List (Int × Int)} {ys : List Y} (h : Eq3 l ls ys) {c : Int} {e : E} (he : atX E.k l c = some e) : ∃ y, atX Y.k ys c = some y ∧ y.r = e.r := by
  have h1 : atX (Prod.fst : Int × Rp → Int) (l.map (fun e => (e.k, e.r))) c = (atX E.k l c).map (fun e => (e.k, e.r)) := map_at (kb := Prod.fst) _ (fun _ => rfl) l c
  have h2 : atX (Prod.fst : Int × Rp → Int) (ys.map Y.p) c = (atX Y.k ys c).map Y.p := map_at (kb := Prod.fst) _ (fun _ => rfl) ys c
  rw [h.b, h1, he] at h2
  cases hy : atX Y.k ys c with
  | none => rw [hy] at h2; simp at h2
  | some y =>
    rw [hy] at h2
    simp only [Option.map_some, Option.some.injEq, Y.p, Prod.mk.injEq] at h2
    exact ⟨y, rfl, h2.2.symm⟩
theorem Eq3.len {l : List E} {ls : List (Int × Int)} {ys : List Y} (h : Eq3 l ls ys) : l.length ≤ 5 ∧ ls.length ≤ 5 ∧ ys.length ≤ 5 := by
  have h1 := srt_len l 1 5 h.s (fun e he => ⟨(h.r e he).1, (h.r e he).2.1⟩)
  have h2 : ls.length = l.length := by rw [h.a]; simp
  have h3 : ys.length = l.length := by have := congrArg List.length h.b; simpa using this
  omega
theorem Eq3.srt {l : List E} {ls : List (Int × Int)} {ys : List Y} (h : Eq3 l ls ys) : Srt kI ls ∧ Srt Y.k ys := by
  refine ⟨by rw [h.a]; exact map_srt (kb := kI) _ (fun _ => rfl) h.s, ?_⟩
  have h1 : Srt (Prod.fst : Int × Rp → Int) (ys.map Y.p) := by rw [h.b]; exact map_srt (kb := Prod.fst) _ (fun _ => rfl) h.s
  unfold Srt at h1 ⊢
  rw [List.pairwise_map] at h1
  exact h1
theorem Eq3.put {l : List E} {ls : List (Int × Int)} {ys : List Y} (h : Eq3 l ls ys) {c n : Int} {y : Y} (hc : 1 ≤ c ∧ c ≤ 5 ∧ 1 ≤ n ∧ n ≤ 20) (hk : y.k = c) (hcn : Cnt y.r) : Eq3 (put E.k l ⟨c, n, y.r⟩) (put kI ls (c, n)) (put Y.k ys y) := by
  refine ⟨?_, ?_, srt_put h.s _, fun e he => ?_, fun e he => ?_⟩
  · rw [h.a]; exact (map_put (kb := kI) (fun e : E => (e.k, e.n)) (fun _ => rfl) l ⟨c, n, y.r⟩).symm
  · have h1 := map_put (key := Y.k) (kb := (Prod.fst : Int × Rp → Int)) Y.p (fun _ => rfl) ys y
    have h2 := map_put (key := E.k) (kb := (Prod.fst : Int × Rp → Int)) (fun e : E => (e.k, e.r)) (fun _ => rfl) l ⟨c, n, y.r⟩
    rw [h1, h2, h.b]
    subst hk
    rfl
  · rcases mem_put he with rfl | he
    · exact hc
    · exact h.r e he
  · rcases mem_put he with rfl | he
    · exact hcn
    · exact h.c e he
theorem lookI {W : World} {b : Nat} {ls : List (Int × Int)} (h : MI W b ls) {c : Int} (hc : (Lit.int .i64 c).wf = true) {L : Int} (hL : (match atX kI ls c with | none => (0 : Int) | some p => p.2) = L) : (Instr.lookup 25 (.map (some b)) (.int .i64 c) false).run Try.prog W = .ok (.int .i64 L) W := by
  have h1 := look1 uI Try.underlying25 (zI W) h hc
  subst hL
  rw [h1]
  cases atX kI ls c <;> rfl
theorem lookY {W : World} {b : Nat} {ys : List Y} (h : MY W b ys) {c : Int} (hc : (Lit.int .i64 c).wf = true) {y : Y} (hy : atX Y.k ys c = some y) : (Instr.lookup 26 (.map (some b)) (.int .i64 c) false).run Try.prog W = .ok (.agg (Pv y.r y.ga y.gc y.da y.dc y.ra y.rc)) W := by
  have h1 := look1 uI Try.underlying26 (show (zeroValue 32).run Try.prog W = .ok (.agg ZP) W by kernel_rfl) h hc
  rw [h1, hy]
  rfl

set_option maxHeartbeats 16000000 in
theorem last_walk (w : World) (acts : List Ac) (ao : Option Addr) (cap : Nat) (hr : RowA w ao acts) (hin : ∀ x ∈ acts, AcIn w x) (hlen : acts.length ≤ 9223372036854775807) :
    Calls Try.prog 3 #[.slice ao acts.length cap] w fun e w' => e = .returned (.bool true) ∧ Below w.heap.size w w' := by
  have hmx : Try.prog.follows .mixedOrders = true := by kernel_rfl
  have hmm := @run_makeMap Try.prog
  have HR := mkH hr
  have HI := mkH hin
  clear hr hin
  go_enter Try.func3, Try.ntmps3
  go_upto_region 4 with (first | (go_at_call 5; refine (new_any _).mono ?_; rintro e1 W1 ⟨rfl, ht1, hb1⟩; have HT1 := mkH ht1; have HB1 := mkH hb1; clear ht1 hb1))
  obtain ⟨Tn, hTn⟩ : ∃ Tn, w.heap.size + 1 = Tn := ⟨_, rfl⟩
  have HB2 : Hid (Below w.heap.size w ((W1.alloc (.map #[] 0)).alloc (.map #[] 0))) := mkH ((HB1.out.alloc HB1.out.size _).alloc (by have := HB1.out.size; simp; omega) _)
  have HL0 : Hid (Lst w.heap.size Tn w.heap.size W1.heap.size (W1.heap.size + 1) ((W1.alloc (.map #[] 0)).alloc (.map #[] 0)) [] [] []) := mkH (by
    have hs := HB1.out.size
    have ht := (HT1.out.below ((Below.refl _ W1).alloc (Nat.le_refl _) (.map #[] 0))).below ((Below.refl _ _).alloc (Nat.le_refl _) (.map #[] 0))
    rw [hTn] at ht
    refine ⟨⟨fun k => w.heap.size ≤ k ∧ k < W1.heap.size, ?_, fun k hk => ⟨hk.1, by omega, by omega⟩⟩, (Mw.made W1).below ((Below.refl _ _).alloc (Nat.le_refl _) _), ?_, (fun y hy => by cases hy), by omega, hs, by omega⟩
    · obtain ⟨xs, e, hx⟩ := ht
      have hxs : xs = [] := by simpa using e
      subst hxs
      obtain ⟨xs1, e1, hx1⟩ := HT1.out
      refine ⟨[], rfl, ⟨hx.bx, hx.m, hx.s, (fun x hx => by cases hx), ⟨hx.ft, ?_⟩, ⟨hx.fm, hx1.m.lt⟩, hx.len⟩⟩
      have := hx1.bx.lt
      omega
    · have := Mw.made (key := Y.k) (val := Y.v) (P := Try.prog) (tk := 3) (W1.alloc (.map #[] 0))
      simpa using this)
  have HE0 : Hid (Eq3 [] [] []) := mkH ⟨rfl, rfl, List.Pairwise.nil, (fun e he => by cases he), (fun e he => by cases he)⟩
  rw [hTn]
  clear hTn HT1
  go_wp2_with fail
  generalize (W1.alloc (.map #[] 0)).alloc (.map #[] 0) = W2 at *
  generalize W1.heap.size + 1 = Sb at *
  generalize W1.heap.size = Lb at *
  clear HB1 hmm
  go_loopw [6] (fun i wr => ∃ (k : Nat) (l : List E) (ls : List (Int × Int)) (ys : List Y), k ≤ acts.length ∧ k ≤ 60 ∧ i = .int .i64 (k : Int) ∧ Hid (Lst w.heap.size Tn w.heap.size Lb Sb wr l ls ys) ∧ Hid (Eq3 l ls ys) ∧ Hid (Below w.heap.size w wr)) (fun i _ => 60 - (intOf i).toNat)
  case atStart => exact ⟨0, [], [], [], Nat.zero_le _, Nat.zero_le _, rfl, HL0, HE0, HB2⟩
  case round =>
    clear HL0 HE0 HB2
    obtain ⟨k, l, ls, ys, hk, hk6, rfl, HL, HE, HB⟩ := hrel
    by_cases hlt : k < acts.length ∧ k < 60
    · obtain ⟨hlt, hlt2⟩ := hlt
      have c2 : (k : Int) < 60 := by omega
      obtain ⟨x, hx⟩ := some_of hlt
      have HIN := mkH ((HI.out x (List.mem_of_getElem? hx)).below HB.out)
      obtain ⟨b, off, rfl, hc0, hc1, hc2, hc9, hld⟩ := atA (HR.out.below HB.out) hx
      obtain ⟨c, hc, hc5, hc6⟩ := mod_in x.cl 5 (by decide) (by decide)
      obtain ⟨n, hn, hn5, hn6⟩ := mod_in x.nu 20 (by decide) (by decide)
      have HLD := mkH hld
      have HX := mkH hx
      clear hx hc0 hc9 hld
      go_wp2_with fail
      go_quiet (fail)
      rw [hc, hn]
      have hbq : Below wr.heap.size wr (wr.drewN nq) := Dk.below_drewN (Below.refl _ _) nq
      have HL3 := mkH (HL.out.below hbq)
      have HB3 := mkH (HB.out.trans (hbq.mono HB.out.size))
      have HIN3 := mkH (HIN.out.below hbq)
      generalize wr.drewN nq = W3 at *
      have HLD3 : Hid ((loadVar 32 ⟨b, off + k * 10 + 3, none⟩).run Try.prog W3 = .ok (.agg (Pv x.r x.ga x.gc x.da x.dc x.ra x.rc)) W3) := mkH (by
        obtain ⟨b', off', e, -, -, -, -, h⟩ := atA (HR.out.below HB3.out) HX.out
        injection e with e; injection e with e1 e2; subst e1 e2
        exact h)
      have hcw : (Lit.int .i64 c).wf = true := wf_int (by omega) (by omega)
      obtain ⟨L0, hL0⟩ : ∃ L0, lastN l c = L0 := ⟨_, rfl⟩
      have HLL : Hid ((match atX kI ls c with | none => (0 : Int) | some p => p.2) = L0) := mkH (by
        rw [HE.out.at1 c, ← hL0]
        unfold lastN
        cases atX E.k l c <;> rfl)
      have HEN : Hid (noteE l c n = if n ≤ L0 then 16 else 0) := mkH (by
        unfold noteE
        have h5 := HE.out.len.1
        rw [if_neg (by unfold num; omega), if_neg (by unfold num; omega), hL0, if_neg (c := (atX E.k l c).isNone = true ∧ 64 ≤ l.length) (fun h => by have := h.2; omega)])
      have HL0' := mkH hL0
      clear hc hn hbq HL HB HIN HLD hc1 hc2 hL0
      by_cases hle : n ≤ L0
      · have HN2 : Hid (noteE l c n = 16) := mkH (by rw [HEN.out, if_pos hle])
        go_upto_region 14 with (first
          | (go_at_call 7; obtain ⟨F5, hF5, hFk5⟩ := HL5.out.t; refine (note_any hF5 c n (fR x.r) g4 gc4 d4 dc4 r4 rc4 HR5.out (fR_cnt _)).mono ?_; rintro e1 W6 ⟨rfl, ⟨F6, ht6, hf6⟩, hfr6⟩; rw [HN2.out]; have HL6 := mkH (HL5.out.note hF5 hFk5 ht6 hf6 hfr6 HB5.out.size); have HB6 := mkH (HB5.out.trans (hfr6.below (fun k hk => Nat.le_of_eq hk.symm) HB5.out.size)); have hbare := (hF5 : Tb W5 F5 Tn w.heap.size l); have HX6 : Hid (Bx W6 W4.heap.size (Pv (fR x.r) g4 gc4 d4 dc4 r4 rc4) 32 ∧ RpM W6 (fR x.r) g4 d4 r4) := mkH (by obtain ⟨xs, -, hx⟩ := hbare; exact ⟨bx_fr HX5.out hfr6 (Mt.bare hx.m ⟨W4.heap.size, 0, none⟩ _ (HX5.out.cell 0)), rpM_bare HR5.out hfr6 (Mt.bare hx.m)⟩); have hlk := lookI HL6.out.i hcw HLL.out; clear hF5 hFk5 ht6 hf6 hfr6 hbare)
          | (refine Wy.wpList_ld (ty := 32) (x := .tmp 9) rfl rfl rfl (load_pv HX5.out) ?_)
          | (refine wpList_stn rfl (ty := 32) (x := .tmp 9) (y := .tmp 58) (cs := Pv (fR x.r) g4 gc4 d4 dc4 r4 rc4) (zs := Sw.zP6) rfl rfl rfl (Sw.infoPv _ _ _ _ _ _ _) (Sw.sizePv _ _ _ _ _ _ _) (Pv_one _ _ _ _ _ _ _) (fun W5 hB5 hg5 => ?_); have HX5 := mkH hB5; have HL5 := mkH (HL4.out.below hg5.below); have HB5 := mkH (HB4.out.trans (hg5.below.mono HB4.out.size)); have HR5 := mkH (HR4.out.below hg5.below); clear hB5 hg5)
          | (go_at_call 6; refine (few_any _ x.r x.ga x.gc x.da x.dc x.ra x.rc HIN3.out.rp).mono ?_; rintro e1 W4 ⟨g4, gc4, d4, dc4, r4, rc4, rfl, hr4, -, hb4⟩; have HR4 := mkH hr4; have HL4 := mkH (HL3.out.below hb4); have HB4 := mkH (HB3.out.trans (hb4.mono HB3.out.size)); clear hr4 hb4)
          | (refine Wy.wpList_ld (ty := 32) (x := .tmp 56) rfl rfl rfl HLD3.out ?_))
        have hex : ∃ e, atX E.k l c = some e := at_num (by rw [HL0'.out]; omega)
        obtain ⟨e, he⟩ := hex
        obtain ⟨l', ls', ys', V0, HLV0, HEQ, HBV0, hV0, hl'⟩ : ∃ l' ls' ys' V0, Hid (Lst w.heap.size Tn w.heap.size Lb Sb V0 l' ls' ys') ∧ Hid (Eq3 l' ls' ys') ∧ Hid (Below w.heap.size w V0) ∧ V0 = W6 ∧ l' = l := ⟨l, ls, ys, W6, by have h := HL6; unfold noteL at h; rw [HN2.out, if_neg (by decide)] at h; exact h, HE, HB6, rfl, rfl⟩
        subst hl' hV0
        clear hlk HL6 HX6 HB6 HLL HE HL5 HX5 HR5 HL4 HB5 HB4 HR4 HL3 HB3 HLD3 HIN3
        obtain ⟨m, hm⟩ : ∃ m, e.n = m := ⟨_, rfl⟩
        obtain ⟨er, her⟩ : ∃ er, e.r = er := ⟨_, rfl⟩
        have hem := (atX_mem he).1
        have hmb := HEQ.out.r e hem
        rw [hm] at hmb
        have HMN : Hid (lastN l' c = m) := mkH ((lastN_of he).trans hm)
        have HLM : Hid ((match atX kI ls' c with | none => (0 : Int) | some p => p.2) = m) := mkH (by rw [HEQ.out.at1 c, he]; exact hm)
        have HCE : Hid (Cnt er) := mkH (by rw [← her]; exact HEQ.out.c e hem)
        obtain ⟨y, hya, hyr⟩ := HEQ.out.at2 he
        obtain ⟨yk, yr, yga, ygc, yda, ydc, yra, yrc⟩ := y
        simp only [her] at hyr
        subst hyr
        have HYA := mkH hya
        have HYR : Hid (∀ W, Lst w.heap.size Tn w.heap.size Lb Sb W l' ls' ys' → RpM W yr yga yda yra) := mkH (fun W h => h.r _ (atX_mem hya).1)
        have HE1 : Hid (lookE l' c m = 0) := mkH (by unfold lookE; rw [HMN.out, if_neg (by unfold num; omega), if_neg (by unfold num; omega), if_neg (by omega)])
        have HK1 : Hid (lookK l' c m = true) := mkH (by unfold lookK; rw [HMN.out]; simp; constructor <;> (unfold num; omega))
        have HRR : Hid (lookR l' c m = yr) := mkH (by unfold lookR; rw [HK1.out, if_pos rfl, he]; exact her)
        have HE2 : Hid (lookE l' c (m + 1) = 0) := mkH (by unfold lookE; rw [HMN.out, if_neg (by unfold num; omega), if_neg (by unfold num; omega), if_neg (by omega)])
        have HK2 : Hid (lookK l' c (m + 1) = false) := mkH (by unfold lookK; rw [HMN.out]; simp; intro _ _; omega)
        have hm20 : m ≤ 20 := hmb.2.2.2
        have hm0 : 1 ≤ m := hmb.2.2.1
        have hlkV0 := lookI HLV0.out.i hcw HLM.out
        clear hm her hem hmb hya he
        go_upto_region 18 with (first
          | (refine wpList_stn rfl (ty := 32) (x := .tmp 14) (y := .tmp 98) (cs := Pv _ g9 gc9 d9 dc9 r9 rc9) (zs := Sw.zP6) rfl rfl rfl (Sw.infoPv _ _ _ _ _ _ _) (Sw.sizePv _ _ _ _ _ _ _) (Pv_one _ _ _ _ _ _ _) (fun V4 hB hg => ?_); have HLV4 := mkH (HLV3.out.below hg.below); have HBV4 := mkH (HBV3.out.trans (hg.below.mono HBV3.out.size)); have hlkV4 := lookI HLV4.out.i hcw HLM.out; have HX4 := mkH (bx_bel HX3.out hg.below); have HR4q := mkH (HR3q.out.below hg.below); clear hB hg)
          | (go_at_call 8; obtain ⟨Fq, hFq, -⟩ := HLV2.out.t; refine (look_any hFq c (m + 1)).mono ?_; rintro e1 V3 ⟨g9, gc9, d9, dc9, r9, rc9, rfl, hr9, -, hcn9, hb9⟩; rw [HE2.out, HK2.out]; have HX3 := mkH (bx_bel HX2.out hb9); have HR3q := mkH (HR2q.out.below hb9); have HLV3 := mkH (HLV2.out.below hb9); have HBV3 := mkH (HBV2.out.trans (hb9.mono HBV2.out.size)); clear hFq hb9 hcn9 hr9)
          | (refine wpList_stn rfl (ty := 32) (x := .tmp 11) (y := .tmp 87) (cs := Pv yr g8 gc8 d8 dc8 r8 rc8) (zs := Sw.zP6) rfl rfl rfl (Sw.infoPv _ _ _ _ _ _ _) (Sw.sizePv _ _ _ _ _ _ _) (Pv_one _ _ _ _ _ _ _) (fun V2 hB hg => ?_); have HLV2 := mkH (HLV1.out.below hg.below); have HBV2 := mkH (HBV1.out.trans (hg.below.mono HBV1.out.size)); have hlkV2 := lookI HLV2.out.i hcw HLM.out; have HX2 := mkH hB; have HR2q := mkH (HR1q.out.below hg.below); clear hB hg)
          | (go_at_call 8; obtain ⟨Fq, hFq, -⟩ := HLV0.out.t; refine (look_any hFq c (m)).mono ?_; rintro e1 V1 ⟨g8, gc8, d8, dc8, r8, rc8, rfl, hr8, -, hcn8, hb8⟩; rw [HE1.out, HK1.out]; rw [HRR.out]; rw [HRR.out] at hr8; have HR1q := mkH hr8; have HLV1 := mkH (HLV0.out.below hb8); have HBV1 := mkH (HBV0.out.trans (hb8.mono HBV0.out.size)); clear hFq hb8 hcn8 hr8))
        clear hlkV4 hlkV2
        have hbd : Below V4.heap.size V4 V4.drew := below_drew _
        have HLU0 := mkH (HLV4.out.below hbd)
        have HBU0 := mkH (HBV4.out.trans (hbd.mono HBV4.out.size))
        have HXU0 := mkH HX4.out.drew
        have HRU0 := mkH (HR4q.out.below hbd)
        refine wp_region_held_drew (S := fun W => (loadVar 32 ⟨V1.heap.size, 0, none⟩).run Try.prog W = .ok (.agg (Pv yr g8 gc8 d8 dc8 r8 rc8)) W ∧ (Instr.lookup 26 (.map (some Sb)) (.int .i64 c) false).run Try.prog W = .ok (.agg (Pv yr yga ygc yda ydc yra yrc)) W ∧ (Instr.lookup 25 (.map (some Lb)) (.int .i64 c) false).run Try.prog W = .ok (.int .i64 m) W) hmx (⟨load_pv HXU0.out, lookY HLU0.out.y hcw HYA.out, lookI HLU0.out.i hcw HLM.out⟩) (fun hHeld => ?_)
        clear hbd
        generalize V4.drew = U0 at *
        refine wpAnyH_take (i := 0) (oi := { dst := some 101, op := _, type := _, pos := _, after := _, guard := _ }) (v := ?_) rfl (by kernel_rfl) (by kernel_rfl) (by kernel_rfl) (fun _ _ _ h => h) (Or.inl ⟨by rfl, ?_⟩) (by assumption) ?_
        rotate_left
        · (intro W hSw; (try dsimp only at hSw); go_simp; try (with_reducible rfl))
        try simp only [Act.put, List.setIfInBounds_toArray, List.set_cons_zero, List.set_cons_succ]
        refine wpAnyH_take (i := 1) (oi := { dst := some 102, op := _, type := _, pos := _, after := _, guard := _ }) (v := ?_) rfl (by kernel_rfl) (by kernel_rfl) (by kernel_rfl) (fun _ _ _ h => h) (Or.inl ⟨by rfl, ?_⟩) (by assumption) ?_
        rotate_left
        · (intro W hSw; (try dsimp only at hSw); go_simp; try (with_reducible rfl))
        try simp only [Act.put, List.setIfInBounds_toArray, List.set_cons_zero, List.set_cons_succ]
        refine wpAnyH_take (i := 2) (oi := { dst := some 103, op := _, type := _, pos := _, after := _, guard := _ }) (v := ?_) rfl (by kernel_rfl) (by kernel_rfl) (by kernel_rfl) (fun _ _ _ h => h) (Or.inl ⟨by rfl, ?_⟩) (by assumption) ?_
        rotate_left
        · (intro W hSw; (try dsimp only at hSw); go_simp; try (with_reducible rfl))
        try simp only [Act.put, List.setIfInBounds_toArray, List.set_cons_zero, List.set_cons_succ]
        refine wpAnyH_take (i := 3) (oi := { dst := some 104, op := _, type := _, pos := _, after := _, guard := _ }) (v := ?_) rfl (by kernel_rfl) (by kernel_rfl) (by kernel_rfl) (fun _ _ _ h => h) (Or.inl ⟨by rfl, ?_⟩) (by assumption) ?_
        rotate_left
        · (intro W hSw; (try dsimp only at hSw); go_simp; try (with_reducible rfl))
        try simp only [Act.put, List.setIfInBounds_toArray, List.set_cons_zero, List.set_cons_succ]
        refine wpAnyH_take (i := 4) (oi := { dst := some 105, op := _, type := _, pos := _, after := _, guard := _ }) (v := ?_) rfl (by kernel_rfl) (by kernel_rfl) (by kernel_rfl) (fun _ _ _ h => h) (Or.inl ⟨by rfl, ?_⟩) (by assumption) ?_
        rotate_left
        · (intro W hSw; (try dsimp only at hSw); go_simp; try (with_reducible rfl))
        try simp only [Act.put, List.setIfInBounds_toArray, List.set_cons_zero, List.set_cons_succ]
        refine wpAnyH_take (i := 5) (oi := { dst := some 106, op := _, type := _, pos := _, after := _, guard := _ }) (v := ?_) rfl (by kernel_rfl) (by kernel_rfl) (by kernel_rfl) (fun _ _ _ h => h) (Or.inl ⟨by rfl, ?_⟩) (by assumption) ?_
        rotate_left
        · (intro W hSw; (try dsimp only at hSw); go_simp; try (with_reducible rfl))
        try simp only [Act.put, List.setIfInBounds_toArray, List.set_cons_zero, List.set_cons_succ]
        refine wpAnyH_take (i := 6) (oi := { dst := some 107, op := _, type := _, pos := _, after := _, guard := _ }) (v := ?_) rfl (by kernel_rfl) (by kernel_rfl) (by kernel_rfl) (fun _ _ _ h => h) (Or.inl ⟨by rfl, ?_⟩) (by assumption) ?_
        rotate_left
        · (intro W hSw; (try dsimp only at hSw); go_simp; try (with_reducible rfl))
        try simp only [Act.put, List.setIfInBounds_toArray, List.set_cons_zero, List.set_cons_succ]
        refine wpAnyH_take (i := 7) (oi := { dst := some 108, op := _, type := _, pos := _, after := _, guard := _ }) (v := ?_) rfl (by kernel_rfl) (by kernel_rfl) (by kernel_rfl) (fun _ _ _ h => h) (Or.inl ⟨by rfl, ?_⟩) (by assumption) ?_
        rotate_left
        · (intro W hSw; (try dsimp only at hSw); go_simp; try (with_reducible rfl))
        try simp only [Act.put, List.setIfInBounds_toArray, List.set_cons_zero, List.set_cons_succ]
        refine wpAnyH_take (i := 8) (oi := { dst := some 109, op := _, type := _, pos := _, after := _, guard := _ }) (v := ?_) rfl (by kernel_rfl) (by kernel_rfl) (by kernel_rfl) (fun _ _ _ h => h) (Or.inl ⟨by rfl, ?_⟩) (by assumption) ?_
        rotate_left
        · (intro W hSw; (try dsimp only at hSw); go_simp; try (with_reducible rfl))
        try simp only [Act.put, List.setIfInBounds_toArray, List.set_cons_zero, List.set_cons_succ]
        refine wpAnyH_take (i := 9) (oi := { dst := some 110, op := _, type := _, pos := _, after := _, guard := _ }) (v := ?_) rfl (by kernel_rfl) (by kernel_rfl) (by kernel_rfl) (fun _ _ _ h => h) (Or.inl ⟨by rfl, ?_⟩) (by assumption) ?_
        rotate_left
        · (intro W hSw; (try dsimp only at hSw); go_simp; try (with_reducible rfl))
        try simp only [Act.put, List.setIfInBounds_toArray, List.set_cons_zero, List.set_cons_succ]
        refine wpAnyH_take (i := 10) (oi := { dst := some 111, op := _, type := _, pos := _, after := _, guard := _ }) (v := ?_) rfl (by kernel_rfl) (by kernel_rfl) (by kernel_rfl) (fun _ _ _ h => h) (Or.inl ⟨by rfl, ?_⟩) (by assumption) ?_
        rotate_left
        · (intro W hSw; (try dsimp only at hSw); go_simp; try (with_reducible rfl))
        try simp only [Act.put, List.setIfInBounds_toArray, List.set_cons_zero, List.set_cons_succ]
        refine wpAnyH_take (i := 11) (oi := { dst := some 112, op := _, type := _, pos := _, after := _, guard := _ }) (v := .agg (Pv yr g8 gc8 d8 dc8 r8 rc8)) rfl (by kernel_rfl) (by kernel_rfl) (by kernel_rfl) (fun _ _ _ h => h) (Or.inl ⟨by rfl, ?_⟩) (by assumption) ?_
        · (intro W hSw; (try dsimp only at hSw); exact Wx.run_ld (x := .tmp 11) rfl rfl hSw.1)
        try simp only [Act.put, List.setIfInBounds_toArray, List.set_cons_zero, List.set_cons_succ]
        refine wpAnyH_take (i := 12) (oi := { dst := some 113, op := _, type := _, pos := _, after := _, guard := _ }) (v := ?_) rfl (by kernel_rfl) (by kernel_rfl) (by kernel_rfl) (fun _ _ _ h => h) (Or.inl ⟨by rfl, ?_⟩) (by assumption) ?_
        rotate_left
        · (intro W hSw; (try dsimp only at hSw); go_simp; try (with_reducible rfl))
        try simp only [Act.put, List.setIfInBounds_toArray, List.set_cons_zero, List.set_cons_succ]
        refine wpAnyH_take (i := 13) (oi := { dst := some 114, op := _, type := _, pos := _, after := _, guard := _ }) (v := ?_) rfl (by kernel_rfl) (by kernel_rfl) (by kernel_rfl) (fun _ _ _ h => h) (Or.inl ⟨by rfl, ?_⟩) (by assumption) ?_
        rotate_left
        · (intro W hSw; (try dsimp only at hSw); go_simp; try (with_reducible rfl))
        try simp only [Act.put, List.setIfInBounds_toArray, List.set_cons_zero, List.set_cons_succ]
        refine wpAnyH_take (i := 14) (oi := { dst := some 115, op := _, type := _, pos := _, after := _, guard := _ }) (v := ?_) rfl (by kernel_rfl) (by kernel_rfl) (by kernel_rfl) (fun _ _ _ h => h) (Or.inl ⟨by rfl, ?_⟩) (by assumption) ?_
        rotate_left
        · (intro W hSw; (try dsimp only at hSw); go_simp; try (with_reducible rfl))
        try simp only [Act.put, List.setIfInBounds_toArray, List.set_cons_zero, List.set_cons_succ]
        refine wpAnyH_ready (rs := [15]) (by kernel_rfl) (by simp) ?_
        refine (AllReadyH.cons (o := { dst := some 116, op := _, type := _, pos := _, after := _, guard := _ }) rfl (fun K hK => ?_) AllReadyH.nil)
        go_simp
        refine (Wsr.rsameReply_self _ yr g8 gc8 d8 dc8 r8 rc8 yga ygc yda ydc yra yrc HRU0.out (HYR.out _ HLU0.out) HCE.out).mono ?_
        rintro e1 U1 ⟨rfl, hg1⟩
        have HLU1 := mkH (HLU0.out.below hg1.below)
        have HBU1 := mkH (HBU0.out.trans (hg1.below.mono HBU0.out.size))
        have HXU1 := mkH (bx_bel HXU0.out hg1.below)
        clear hg1
        go_wp2_with fail
        refine hK.out _ _ ?_ (fun hHeld => ?_)
        · exact ⟨load_pv HXU1.out, lookY HLU1.out.y hcw HYA.out, lookI HLU1.out.i hcw HLM.out⟩
        clear hK K
        try simp only [Act.put, List.setIfInBounds_toArray, List.set_cons_zero, List.set_cons_succ]
        refine wpAnyH_take (i := 16) (oi := { dst := some 117, op := _, type := _, pos := _, after := _, guard := _ }) (v := ?_) rfl (by kernel_rfl) (by kernel_rfl) (by kernel_rfl) (fun _ _ _ h => h) (Or.inl ⟨by rfl, ?_⟩) (by assumption) ?_
        rotate_left
        · (intro W hSw; (try dsimp only at hSw); go_simp; try (with_reducible rfl))
        try simp only [Act.put, List.setIfInBounds_toArray, List.set_cons_zero, List.set_cons_succ]
        refine wpAnyH_take (i := 17) (oi := { dst := some 118, op := _, type := _, pos := _, after := _, guard := _ }) (v := ?_) rfl (by kernel_rfl) (by kernel_rfl) (by kernel_rfl) (fun _ _ _ h => h) (Or.inl ⟨by rfl, ?_⟩) (by assumption) ?_
        rotate_left
        · (intro W hSw; (try dsimp only at hSw); go_simp; try (with_reducible rfl))
        try simp only [Act.put, List.setIfInBounds_toArray, List.set_cons_zero, List.set_cons_succ]
        refine wpAnyH_take (i := 18) (oi := { dst := some 119, op := _, type := _, pos := _, after := _, guard := _ }) (v := ?_) rfl (by kernel_rfl) (by kernel_rfl) (by kernel_rfl) (fun _ _ _ h => h) (Or.inl ⟨by rfl, ?_⟩) (by assumption) ?_
        rotate_left
        · (intro W hSw; (try dsimp only at hSw); go_simp; try (with_reducible rfl))
        try simp only [Act.put, List.setIfInBounds_toArray, List.set_cons_zero, List.set_cons_succ]
        refine wpAnyH_take (i := 19) (oi := { dst := some 120, op := _, type := _, pos := _, after := _, guard := _ }) (v := ?_) rfl (by kernel_rfl) (by kernel_rfl) (by kernel_rfl) (fun _ _ _ h => h) (Or.inl ⟨by rfl, ?_⟩) (by assumption) ?_
        rotate_left
        · (intro W hSw; (try dsimp only at hSw); go_simp; try (with_reducible rfl))
        try simp only [Act.put, List.setIfInBounds_toArray, List.set_cons_zero, List.set_cons_succ]
        refine wpAnyH_take (i := 20) (oi := { dst := some 121, op := _, type := _, pos := _, after := _, guard := _ }) (v := ?_) rfl (by kernel_rfl) (by kernel_rfl) (by kernel_rfl) (fun _ _ _ h => h) (Or.inl ⟨by rfl, ?_⟩) (by assumption) ?_
        rotate_left
        · (intro W hSw; (try dsimp only at hSw); go_simp; try (with_reducible rfl))
        try simp only [Act.put, List.setIfInBounds_toArray, List.set_cons_zero, List.set_cons_succ]
        refine wpAnyH_take (i := 22) (oi := { dst := some 123, op := _, type := _, pos := _, after := _, guard := _ }) (v := ?_) rfl (by kernel_rfl) (by kernel_rfl) (by kernel_rfl) (fun _ _ _ h => h) (Or.inl ⟨by rfl, ?_⟩) (by assumption) ?_
        rotate_left
        · (intro W hSw; (try dsimp only at hSw); go_simp; try (with_reducible rfl))
        try simp only [Act.put, List.setIfInBounds_toArray, List.set_cons_zero, List.set_cons_succ]
        refine wpAnyH_take (i := 23) (oi := { dst := some 124, op := _, type := _, pos := _, after := _, guard := _ }) (v := ?_) rfl (by kernel_rfl) (by kernel_rfl) (by kernel_rfl) (fun _ _ _ h => h) (Or.inl ⟨by rfl, ?_⟩) (by assumption) ?_
        rotate_left
        · (intro W hSw; (try dsimp only at hSw); go_simp; try (with_reducible rfl))
        try simp only [Act.put, List.setIfInBounds_toArray, List.set_cons_zero, List.set_cons_succ]
        refine wpAnyH_take (i := 24) (oi := { dst := some 125, op := _, type := _, pos := _, after := _, guard := _ }) (v := ?_) rfl (by kernel_rfl) (by kernel_rfl) (by kernel_rfl) (fun _ _ _ h => h) (Or.inl ⟨by rfl, ?_⟩) (by assumption) ?_
        rotate_left
        · (intro W hSw; (try dsimp only at hSw); go_simp; try (with_reducible rfl))
        try simp only [Act.put, List.setIfInBounds_toArray, List.set_cons_zero, List.set_cons_succ]
        refine wpAnyH_ready (rs := [21]) (by kernel_rfl) (by simp) ?_
        refine (AllReadyH.cons (o := { dst := some 122, op := _, type := _, pos := _, after := _, guard := _ }) rfl (fun K hK => ?_) AllReadyH.nil)
        go_simp
        obtain ⟨Fq, hFq, -⟩ := HLU1.out.t
        refine (last_any hFq c hcw).mono ?_
        rintro e1 U2 ⟨rfl, hU2⟩
        have hU2' := hU2.symm
        clear hU2 hFq
        subst hU2'
        rw [HMN.out]
        go_wp2_with fail
        refine hK.out _ _ ?_ (fun hHeld => ?_)
        · exact ⟨load_pv HXU1.out, lookY HLU1.out.y hcw HYA.out, lookI HLU1.out.i hcw HLM.out⟩
        clear hK K
        try simp only [Act.put, List.setIfInBounds_toArray, List.set_cons_zero, List.set_cons_succ]
        refine wpAnyH_take (i := 25) (oi := { dst := some 126, op := _, type := _, pos := _, after := _, guard := _ }) (v := ?_) rfl (by kernel_rfl) (by kernel_rfl) (by kernel_rfl) (fun _ _ _ h => h) (Or.inl ⟨by rfl, ?_⟩) (by assumption) ?_
        rotate_left
        · (intro W hSw; (try dsimp only at hSw); go_simp; try (with_reducible rfl))
        try simp only [Act.put, List.setIfInBounds_toArray, List.set_cons_zero, List.set_cons_succ]
        refine wpAnyH_take (i := 26) (oi := { dst := some 127, op := _, type := _, pos := _, after := _, guard := _ }) (v := ?_) rfl (by kernel_rfl) (by kernel_rfl) (by kernel_rfl) (fun _ _ _ h => h) (Or.inl ⟨by rfl, ?_⟩) (by assumption) ?_
        rotate_left
        · (intro W hSw; (try dsimp only at hSw); go_simp; try (with_reducible rfl))
        try simp only [Act.put, List.setIfInBounds_toArray, List.set_cons_zero, List.set_cons_succ]
        refine wpAnyH_done (by kernel_rfl) ?_ _
        have hlkU := lookI HLU1.out.i hcw HLM.out
        by_cases hm1 : m ≤ 1
        · go_wp2_with fail
          refine ⟨⟨k + 1, l', ls', ys', by omega, by omega, by go_num, HLU1, HEQ, HBU1⟩, ?_⟩
          simp [intOf]; omega
        · have HE3 : Hid (lookE l' c (m - 1) = 16) := mkH (by unfold lookE; rw [HMN.out, if_neg (by unfold num; omega), if_neg (by unfold num; omega), if_pos (by omega)])
          have HK3 : Hid (lookK l' c (m - 1) = false) := mkH (by unfold lookK; rw [HMN.out]; simp; intro _ _; omega)
          go_wp2_with (first
            | (refine wpList_stn rfl (ty := 32) (x := .tmp 17) (y := .tmp 140) (cs := Pv _ g10 gc10 d10 dc10 r10 rc10) (zs := Sw.zP6) rfl rfl rfl (Sw.infoPv _ _ _ _ _ _ _) (Sw.sizePv _ _ _ _ _ _ _) (Pv_one _ _ _ _ _ _ _) (fun U4 hB hg => ?_); have HLU4 := mkH (HLU3.out.below hg.below); have HBU4 := mkH (HBU3.out.trans (hg.below.mono HBU3.out.size)); clear hB hg)
            | (go_at_call 8; obtain ⟨Fq, hFq, -⟩ := HLU1.out.t; refine (look_any hFq c (m - 1)).mono ?_; rintro e1 U3 ⟨g10, gc10, d10, dc10, r10, rc10, rfl, hr10, -, hcn10, hb10⟩; rw [HE3.out, HK3.out]; skip; have HLU3 := mkH (HLU1.out.below hb10); have HBU3 := mkH (HBU1.out.trans (hb10.mono HBU1.out.size)); clear hFq hb10 hcn10 hr10))
          refine ⟨⟨k + 1, l', ls', ys', by omega, by omega, by go_num, HLU4, HEQ, HBU4⟩, ?_⟩
          simp [intOf]; omega
      · have HN2 : Hid (noteE l c n = 0) := mkH (by rw [HEN.out, if_neg hle])
        go_upto_region 14 with (first
          | (go_at_call 7; obtain ⟨F5, hF5, hFk5⟩ := HL5.out.t; refine (note_any hF5 c n (fR x.r) g4 gc4 d4 dc4 r4 rc4 HR5.out (fR_cnt _)).mono ?_; rintro e1 W6 ⟨rfl, ⟨F6, ht6, hf6⟩, hfr6⟩; rw [HN2.out]; have HL6 := mkH (HL5.out.note hF5 hFk5 ht6 hf6 hfr6 HB5.out.size); have HB6 := mkH (HB5.out.trans (hfr6.below (fun k hk => Nat.le_of_eq hk.symm) HB5.out.size)); have hbare := (hF5 : Tb W5 F5 Tn w.heap.size l); have HX6 : Hid (Bx W6 W4.heap.size (Pv (fR x.r) g4 gc4 d4 dc4 r4 rc4) 32 ∧ RpM W6 (fR x.r) g4 d4 r4) := mkH (by obtain ⟨xs, -, hx⟩ := hbare; exact ⟨bx_fr HX5.out hfr6 (Mt.bare hx.m ⟨W4.heap.size, 0, none⟩ _ (HX5.out.cell 0)), rpM_bare HR5.out hfr6 (Mt.bare hx.m)⟩); have hlk := lookI HL6.out.i hcw HLL.out; clear hF5 hFk5 ht6 hf6 hfr6 hbare)
          | (refine Wy.wpList_ld (ty := 32) (x := .tmp 9) rfl rfl rfl (load_pv HX5.out) ?_)
          | (refine wpList_stn rfl (ty := 32) (x := .tmp 9) (y := .tmp 58) (cs := Pv (fR x.r) g4 gc4 d4 dc4 r4 rc4) (zs := Sw.zP6) rfl rfl rfl (Sw.infoPv _ _ _ _ _ _ _) (Sw.sizePv _ _ _ _ _ _ _) (Pv_one _ _ _ _ _ _ _) (fun W5 hB5 hg5 => ?_); have HX5 := mkH hB5; have HL5 := mkH (HL4.out.below hg5.below); have HB5 := mkH (HB4.out.trans (hg5.below.mono HB4.out.size)); have HR5 := mkH (HR4.out.below hg5.below); clear hB5 hg5)
          | (go_at_call 6; refine (few_any _ x.r x.ga x.gc x.da x.dc x.ra x.rc HIN3.out.rp).mono ?_; rintro e1 W4 ⟨g4, gc4, d4, dc4, r4, rc4, rfl, hr4, -, hb4⟩; have HR4 := mkH hr4; have HL4 := mkH (HL3.out.below hb4); have HB4 := mkH (HB3.out.trans (hb4.mono HB3.out.size)); clear hr4 hb4)
          | (refine Wy.wpList_ld (ty := 32) (x := .tmp 56) rfl rfl rfl HLD3.out ?_))
        go_wp2_with fail
        obtain ⟨HXb, HRb⟩ := HX6.out
        have hbd : Below W6.heap.size W6 W6.drew := below_drew _
        have HLU0 := mkH (HL6.out.below hbd)
        have HBU0 := mkH (HB6.out.trans (hbd.mono HB6.out.size))
        have HXU0 := mkH HXb.drew
        have HRU0 := mkH (HRb.below hbd)
        clear hbd HXb HRb
        refine Rg.region_G hmx 7 (fun W => (loadVar 32 ⟨W4.heap.size, 0, none⟩).run Try.prog W = .ok (.agg (Pv (fR x.r) g4 gc4 d4 dc4 r4 rc4)) W) (load_pv HXU0.out) (fun hHeld => ?_)
        generalize W6.drew = U0 at *
        refine Rg.anyG_pure (i := 0) (oi := { dst := some 74, op := _, type := _, pos := _, after := _, guard := _ }) (v := ?_) rfl (by kernel_rfl) (by kernel_rfl) (by kernel_rfl) (by rfl) (fun _ _ _ h => h) (Or.inl ⟨by rfl, ?_⟩) (fun _ => by assumption) ?_
        rotate_left
        · (intro W hSw; (try dsimp only at hSw); go_simp; try (with_reducible rfl))
        try simp only [Act.put, List.setIfInBounds_toArray, List.set_cons_zero, List.set_cons_succ]
        refine Rg.anyG_pure (i := 1) (oi := { dst := some 75, op := _, type := _, pos := _, after := _, guard := _ }) (v := ?_) rfl (by kernel_rfl) (by kernel_rfl) (by kernel_rfl) (by rfl) (fun _ _ _ h => h) (Or.inl ⟨by rfl, ?_⟩) (fun _ => by assumption) ?_
        rotate_left
        · (intro W hSw; (try dsimp only at hSw); go_simp; try (with_reducible rfl))
        try simp only [Act.put, List.setIfInBounds_toArray, List.set_cons_zero, List.set_cons_succ]
        refine Rg.anyG_pure (i := 2) (oi := { dst := some 76, op := _, type := _, pos := _, after := _, guard := _ }) (v := ?_) rfl (by kernel_rfl) (by kernel_rfl) (by kernel_rfl) (by rfl) (fun _ _ _ h => h) (Or.inl ⟨by rfl, ?_⟩) (fun _ => by assumption) ?_
        rotate_left
        · (intro W hSw; (try dsimp only at hSw); go_simp; try (with_reducible rfl))
        try simp only [Act.put, List.setIfInBounds_toArray, List.set_cons_zero, List.set_cons_succ]
        refine Rg.anyG_pure (i := 3) (oi := { dst := some 77, op := _, type := _, pos := _, after := _, guard := _ }) (v := ?_) rfl (by kernel_rfl) (by kernel_rfl) (by kernel_rfl) (by rfl) (fun _ _ _ h => h) (Or.inl ⟨by rfl, ?_⟩) (fun _ => by assumption) ?_
        rotate_left
        · (intro W hSw; (try dsimp only at hSw); go_simp; try (with_reducible rfl))
        try simp only [Act.put, List.setIfInBounds_toArray, List.set_cons_zero, List.set_cons_succ]
        refine Rg.anyG_pure (i := 4) (oi := { dst := some 78, op := _, type := _, pos := _, after := _, guard := _ }) (v := ?_) rfl (by kernel_rfl) (by kernel_rfl) (by kernel_rfl) (by rfl) (fun _ _ _ h => h) (Or.inl ⟨by rfl, ?_⟩) (fun _ => by assumption) ?_
        rotate_left
        · (intro W hSw; (try dsimp only at hSw); go_simp; try (with_reducible rfl))
        try simp only [Act.put, List.setIfInBounds_toArray, List.set_cons_zero, List.set_cons_succ]
        refine Rg.anyG_take (i := 5) (oi := { dst := some 79, op := _, type := _, pos := _, after := _, guard := _ }) (v := .agg (Pv (fR x.r) g4 gc4 d4 dc4 r4 rc4)) rfl (by kernel_rfl) (by kernel_rfl) (by kernel_rfl) [7] (by kernel_rfl) (fun _ _ _ h => h) (Or.inl ⟨by rfl, ?_⟩) (by assumption) ?_
        · (intro W hSw; (try dsimp only at hSw); exact Wx.run_ld (x := .tmp 9) rfl rfl hSw)
        try simp only [Act.put, List.setIfInBounds_toArray, List.set_cons_zero, List.set_cons_succ]
        refine Rg.anyG_ready (rs := [6]) (by kernel_rfl) (by simp) ?_
        refine (Rg.AllG.cons (o := { dst := none, op := _, type := _, pos := _, after := _, guard := _ }) rfl (fun K hK => ?_) Rg.AllG.nil)
        obtain ⟨U1, hrun, hm, hf⟩ := store1 uI Try.underlying25 HLU0.out.i HE.out.srt.1 (by have := HE.out.len; omega) ((c, n) : Int × Int) hcw
        have hrun' : (Instr.mapUpdate 25 (.map (some Lb)) (.int .i64 c) (.int .i64 n)).run Try.prog U0 = .ok () U1 := hrun
        have hbr : Bare U0 Lb := fun a v hc => Mw.cell HLU0.out.i hc
        have HLU1 := mkH (HLU0.out.put1 hm hf)
        have HXU1 := mkH (bx_fr HXU0.out hf (hbr ⟨W4.heap.size, 0, none⟩ _ (HXU0.out.cell 0)))
        have HRU1 := mkH (rpM_bare HRU0.out hf hbr)
        have HBU1 := mkH (HBU0.out.trans (hf.below (fun k hk => by have := HLU0.out.lb; omega) HBU0.out.size))
        clear hrun hm hf hbr
        go_simp
        refine hK.out _ _ ?_ (fun hHeld => ?_)
        · exact load_pv HXU1.out
        clear hK K
        try simp only [Act.put, List.setIfInBounds_toArray, List.set_cons_zero, List.set_cons_succ]
        clear hrun'
        refine Rg.anyG_ready (rs := [7]) (by kernel_rfl) (by simp) ?_
        refine Rg.AllG.last (o := { dst := none, op := _, type := _, pos := _, after := _, guard := _ }) rfl (by kernel_rfl) (fun K hK => ?_)
        obtain ⟨U2, hrun, hm, hf⟩ := store1 uI Try.underlying26 HLU1.out.y HE.out.srt.2 (by have := HE.out.len; omega) (⟨c, fR x.r, g4, gc4, d4, dc4, r4, rc4⟩ : Y) hcw
        have hrun' : (Instr.mapUpdate 26 (.map (some Sb)) (.int .i64 c) (.agg (Pv (fR x.r) g4 gc4 d4 dc4 r4 rc4))).run Try.prog U1 = .ok () U2 := hrun
        have HLU2 := mkH (HLU1.out.put2 hm hf HRU1.out)
        have HBU2 := mkH (HBU1.out.trans (hf.below (fun k hk => by have := HLU1.out.sb; omega) HBU1.out.size))
        clear hrun hm hf
        go_simp
        refine hK.out _ _ ?_
        clear hK K
        try simp only [Act.put, List.setIfInBounds_toArray, List.set_cons_zero, List.set_cons_succ]
        refine Rg.anyG_done (by kernel_rfl) ?_ _
        obtain ⟨l', ls', ys', V0, HLV0, HEQ, HBV0, hV0, e, he⟩ : ∃ l' ls' ys' V0, Hid (Lst w.heap.size Tn w.heap.size Lb Sb V0 l' ls' ys') ∧ Hid (Eq3 l' ls' ys') ∧ Hid (Below w.heap.size w V0) ∧ V0 = U2 ∧ ∃ e, atX E.k l' c = some e := ⟨put E.k l ⟨c, n, fR x.r⟩, _, _, U2, by have h := HLU2; unfold noteL at h; rw [HN2.out, if_pos rfl] at h; exact h, HE.out.put (y := ⟨c, fR x.r, g4, gc4, d4, dc4, r4, rc4⟩) ⟨hc5, hc6, hn5, hn6⟩ rfl (fR_cnt _), HBU2, rfl, ⟨c, n, fR x.r⟩, by rw [at_put, if_pos rfl]⟩
        subst hV0
        clear hrun' hlk HL6 HX6 HB6 HLL HE HL5 HX5 HR5 HL4 HB5 HB4 HR4 HL3 HB3 HLD3 HIN3 HLU0 HBU0 HXU0 HRU0 HLU1 HBU1 HXU1 HRU1 HLU2 HBU2 hHeld
        obtain ⟨m, hm⟩ : ∃ m, e.n = m := ⟨_, rfl⟩
        obtain ⟨er, her⟩ : ∃ er, e.r = er := ⟨_, rfl⟩
        have hem := (atX_mem he).1
        have hmb := HEQ.out.r e hem
        rw [hm] at hmb
        have HMN : Hid (lastN l' c = m) := mkH ((lastN_of he).trans hm)
        have HLM : Hid ((match atX kI ls' c with | none => (0 : Int) | some p => p.2) = m) := mkH (by rw [HEQ.out.at1 c, he]; exact hm)
        have HCE : Hid (Cnt er) := mkH (by rw [← her]; exact HEQ.out.c e hem)
        obtain ⟨y, hya, hyr⟩ := HEQ.out.at2 he
        obtain ⟨yk, yr, yga, ygc, yda, ydc, yra, yrc⟩ := y
        simp only [her] at hyr
        subst hyr
        have HYA := mkH hya
        have HYR : Hid (∀ W, Lst w.heap.size Tn w.heap.size Lb Sb W l' ls' ys' → RpM W yr yga yda yra) := mkH (fun W h => h.r _ (atX_mem hya).1)
        have HE1 : Hid (lookE l' c m = 0) := mkH (by unfold lookE; rw [HMN.out, if_neg (by unfold num; omega), if_neg (by unfold num; omega), if_neg (by omega)])
        have HK1 : Hid (lookK l' c m = true) := mkH (by unfold lookK; rw [HMN.out]; simp; constructor <;> (unfold num; omega))
        have HRR : Hid (lookR l' c m = yr) := mkH (by unfold lookR; rw [HK1.out, if_pos rfl, he]; exact her)
        have HE2 : Hid (lookE l' c (m + 1) = 0) := mkH (by unfold lookE; rw [HMN.out, if_neg (by unfold num; omega), if_neg (by unfold num; omega), if_neg (by omega)])
        have HK2 : Hid (lookK l' c (m + 1) = false) := mkH (by unfold lookK; rw [HMN.out]; simp; intro _ _; omega)
        have hm20 : m ≤ 20 := hmb.2.2.2
        have hm0 : 1 ≤ m := hmb.2.2.1
        have hlkV0 := lookI HLV0.out.i hcw HLM.out
        clear hm her hem hmb hya he
        go_upto_region 18 with (first
          | (refine wpList_stn rfl (ty := 32) (x := .tmp 14) (y := .tmp 98) (cs := Pv _ g9 gc9 d9 dc9 r9 rc9) (zs := Sw.zP6) rfl rfl rfl (Sw.infoPv _ _ _ _ _ _ _) (Sw.sizePv _ _ _ _ _ _ _) (Pv_one _ _ _ _ _ _ _) (fun V4 hB hg => ?_); have HLV4 := mkH (HLV3.out.below hg.below); have HBV4 := mkH (HBV3.out.trans (hg.below.mono HBV3.out.size)); have hlkV4 := lookI HLV4.out.i hcw HLM.out; have HX4 := mkH (bx_bel HX3.out hg.below); have HR4q := mkH (HR3q.out.below hg.below); clear hB hg)
          | (go_at_call 8; obtain ⟨Fq, hFq, -⟩ := HLV2.out.t; refine (look_any hFq c (m + 1)).mono ?_; rintro e1 V3 ⟨g9, gc9, d9, dc9, r9, rc9, rfl, hr9, -, hcn9, hb9⟩; rw [HE2.out, HK2.out]; have HX3 := mkH (bx_bel HX2.out hb9); have HR3q := mkH (HR2q.out.below hb9); have HLV3 := mkH (HLV2.out.below hb9); have HBV3 := mkH (HBV2.out.trans (hb9.mono HBV2.out.size)); clear hFq hb9 hcn9 hr9)
          | (refine wpList_stn rfl (ty := 32) (x := .tmp 11) (y := .tmp 87) (cs := Pv yr g8 gc8 d8 dc8 r8 rc8) (zs := Sw.zP6) rfl rfl rfl (Sw.infoPv _ _ _ _ _ _ _) (Sw.sizePv _ _ _ _ _ _ _) (Pv_one _ _ _ _ _ _ _) (fun V2 hB hg => ?_); have HLV2 := mkH (HLV1.out.below hg.below); have HBV2 := mkH (HBV1.out.trans (hg.below.mono HBV1.out.size)); have hlkV2 := lookI HLV2.out.i hcw HLM.out; have HX2 := mkH hB; have HR2q := mkH (HR1q.out.below hg.below); clear hB hg)
          | (go_at_call 8; obtain ⟨Fq, hFq, -⟩ := HLV0.out.t; refine (look_any hFq c (m)).mono ?_; rintro e1 V1 ⟨g8, gc8, d8, dc8, r8, rc8, rfl, hr8, -, hcn8, hb8⟩; rw [HE1.out, HK1.out]; rw [HRR.out]; rw [HRR.out] at hr8; have HR1q := mkH hr8; have HLV1 := mkH (HLV0.out.below hb8); have HBV1 := mkH (HBV0.out.trans (hb8.mono HBV0.out.size)); clear hFq hb8 hcn8 hr8))
        clear hlkV4 hlkV2
        have hbd : Below V4.heap.size V4 V4.drew := below_drew _
        have HLT0 := mkH (HLV4.out.below hbd)
        have HBT0 := mkH (HBV4.out.trans (hbd.mono HBV4.out.size))
        have HXT0 := mkH HX4.out.drew
        have HRT0 := mkH (HR4q.out.below hbd)
        refine wp_region_held_drew (S := fun W => (loadVar 32 ⟨V1.heap.size, 0, none⟩).run Try.prog W = .ok (.agg (Pv yr g8 gc8 d8 dc8 r8 rc8)) W ∧ (Instr.lookup 26 (.map (some Sb)) (.int .i64 c) false).run Try.prog W = .ok (.agg (Pv yr yga ygc yda ydc yra yrc)) W ∧ (Instr.lookup 25 (.map (some Lb)) (.int .i64 c) false).run Try.prog W = .ok (.int .i64 m) W) hmx (⟨load_pv HXT0.out, lookY HLT0.out.y hcw HYA.out, lookI HLT0.out.i hcw HLM.out⟩) (fun hHeld => ?_)
        clear hbd
        generalize V4.drew = T0 at *
        refine wpAnyH_take (i := 0) (oi := { dst := some 101, op := _, type := _, pos := _, after := _, guard := _ }) (v := ?_) rfl (by kernel_rfl) (by kernel_rfl) (by kernel_rfl) (fun _ _ _ h => h) (Or.inl ⟨by rfl, ?_⟩) (by assumption) ?_
        rotate_left
        · (intro W hSw; (try dsimp only at hSw); go_simp; try (with_reducible rfl))
        try simp only [Act.put, List.setIfInBounds_toArray, List.set_cons_zero, List.set_cons_succ]
        refine wpAnyH_take (i := 1) (oi := { dst := some 102, op := _, type := _, pos := _, after := _, guard := _ }) (v := ?_) rfl (by kernel_rfl) (by kernel_rfl) (by kernel_rfl) (fun _ _ _ h => h) (Or.inl ⟨by rfl, ?_⟩) (by assumption) ?_
        rotate_left
        · (intro W hSw; (try dsimp only at hSw); go_simp; try (with_reducible rfl))
        try simp only [Act.put, List.setIfInBounds_toArray, List.set_cons_zero, List.set_cons_succ]
        refine wpAnyH_take (i := 2) (oi := { dst := some 103, op := _, type := _, pos := _, after := _, guard := _ }) (v := ?_) rfl (by kernel_rfl) (by kernel_rfl) (by kernel_rfl) (fun _ _ _ h => h) (Or.inl ⟨by rfl, ?_⟩) (by assumption) ?_
        rotate_left
        · (intro W hSw; (try dsimp only at hSw); go_simp; try (with_reducible rfl))
        try simp only [Act.put, List.setIfInBounds_toArray, List.set_cons_zero, List.set_cons_succ]
        refine wpAnyH_take (i := 3) (oi := { dst := some 104, op := _, type := _, pos := _, after := _, guard := _ }) (v := ?_) rfl (by kernel_rfl) (by kernel_rfl) (by kernel_rfl) (fun _ _ _ h => h) (Or.inl ⟨by rfl, ?_⟩) (by assumption) ?_
        rotate_left
        · (intro W hSw; (try dsimp only at hSw); go_simp; try (with_reducible rfl))
        try simp only [Act.put, List.setIfInBounds_toArray, List.set_cons_zero, List.set_cons_succ]
        refine wpAnyH_take (i := 4) (oi := { dst := some 105, op := _, type := _, pos := _, after := _, guard := _ }) (v := ?_) rfl (by kernel_rfl) (by kernel_rfl) (by kernel_rfl) (fun _ _ _ h => h) (Or.inl ⟨by rfl, ?_⟩) (by assumption) ?_
        rotate_left
        · (intro W hSw; (try dsimp only at hSw); go_simp; try (with_reducible rfl))
        try simp only [Act.put, List.setIfInBounds_toArray, List.set_cons_zero, List.set_cons_succ]
        refine wpAnyH_take (i := 5) (oi := { dst := some 106, op := _, type := _, pos := _, after := _, guard := _ }) (v := ?_) rfl (by kernel_rfl) (by kernel_rfl) (by kernel_rfl) (fun _ _ _ h => h) (Or.inl ⟨by rfl, ?_⟩) (by assumption) ?_
        rotate_left
        · (intro W hSw; (try dsimp only at hSw); go_simp; try (with_reducible rfl))
        try simp only [Act.put, List.setIfInBounds_toArray, List.set_cons_zero, List.set_cons_succ]
        refine wpAnyH_take (i := 6) (oi := { dst := some 107, op := _, type := _, pos := _, after := _, guard := _ }) (v := ?_) rfl (by kernel_rfl) (by kernel_rfl) (by kernel_rfl) (fun _ _ _ h => h) (Or.inl ⟨by rfl, ?_⟩) (by assumption) ?_
        rotate_left
        · (intro W hSw; (try dsimp only at hSw); go_simp; try (with_reducible rfl))
        try simp only [Act.put, List.setIfInBounds_toArray, List.set_cons_zero, List.set_cons_succ]
        refine wpAnyH_take (i := 7) (oi := { dst := some 108, op := _, type := _, pos := _, after := _, guard := _ }) (v := ?_) rfl (by kernel_rfl) (by kernel_rfl) (by kernel_rfl) (fun _ _ _ h => h) (Or.inl ⟨by rfl, ?_⟩) (by assumption) ?_
        rotate_left
        · (intro W hSw; (try dsimp only at hSw); go_simp; try (with_reducible rfl))
        try simp only [Act.put, List.setIfInBounds_toArray, List.set_cons_zero, List.set_cons_succ]
        refine wpAnyH_take (i := 8) (oi := { dst := some 109, op := _, type := _, pos := _, after := _, guard := _ }) (v := ?_) rfl (by kernel_rfl) (by kernel_rfl) (by kernel_rfl) (fun _ _ _ h => h) (Or.inl ⟨by rfl, ?_⟩) (by assumption) ?_
        rotate_left
        · (intro W hSw; (try dsimp only at hSw); go_simp; try (with_reducible rfl))
        try simp only [Act.put, List.setIfInBounds_toArray, List.set_cons_zero, List.set_cons_succ]
        refine wpAnyH_take (i := 9) (oi := { dst := some 110, op := _, type := _, pos := _, after := _, guard := _ }) (v := ?_) rfl (by kernel_rfl) (by kernel_rfl) (by kernel_rfl) (fun _ _ _ h => h) (Or.inl ⟨by rfl, ?_⟩) (by assumption) ?_
        rotate_left
        · (intro W hSw; (try dsimp only at hSw); go_simp; try (with_reducible rfl))
        try simp only [Act.put, List.setIfInBounds_toArray, List.set_cons_zero, List.set_cons_succ]
        refine wpAnyH_take (i := 10) (oi := { dst := some 111, op := _, type := _, pos := _, after := _, guard := _ }) (v := ?_) rfl (by kernel_rfl) (by kernel_rfl) (by kernel_rfl) (fun _ _ _ h => h) (Or.inl ⟨by rfl, ?_⟩) (by assumption) ?_
        rotate_left
        · (intro W hSw; (try dsimp only at hSw); go_simp; try (with_reducible rfl))
        try simp only [Act.put, List.setIfInBounds_toArray, List.set_cons_zero, List.set_cons_succ]
        refine wpAnyH_take (i := 11) (oi := { dst := some 112, op := _, type := _, pos := _, after := _, guard := _ }) (v := .agg (Pv yr g8 gc8 d8 dc8 r8 rc8)) rfl (by kernel_rfl) (by kernel_rfl) (by kernel_rfl) (fun _ _ _ h => h) (Or.inl ⟨by rfl, ?_⟩) (by assumption) ?_
        · (intro W hSw; (try dsimp only at hSw); exact Wx.run_ld (x := .tmp 11) rfl rfl hSw.1)
        try simp only [Act.put, List.setIfInBounds_toArray, List.set_cons_zero, List.set_cons_succ]
        refine wpAnyH_take (i := 12) (oi := { dst := some 113, op := _, type := _, pos := _, after := _, guard := _ }) (v := ?_) rfl (by kernel_rfl) (by kernel_rfl) (by kernel_rfl) (fun _ _ _ h => h) (Or.inl ⟨by rfl, ?_⟩) (by assumption) ?_
        rotate_left
        · (intro W hSw; (try dsimp only at hSw); go_simp; try (with_reducible rfl))
        try simp only [Act.put, List.setIfInBounds_toArray, List.set_cons_zero, List.set_cons_succ]
        refine wpAnyH_take (i := 13) (oi := { dst := some 114, op := _, type := _, pos := _, after := _, guard := _ }) (v := ?_) rfl (by kernel_rfl) (by kernel_rfl) (by kernel_rfl) (fun _ _ _ h => h) (Or.inl ⟨by rfl, ?_⟩) (by assumption) ?_
        rotate_left
        · (intro W hSw; (try dsimp only at hSw); go_simp; try (with_reducible rfl))
        try simp only [Act.put, List.setIfInBounds_toArray, List.set_cons_zero, List.set_cons_succ]
        refine wpAnyH_take (i := 14) (oi := { dst := some 115, op := _, type := _, pos := _, after := _, guard := _ }) (v := ?_) rfl (by kernel_rfl) (by kernel_rfl) (by kernel_rfl) (fun _ _ _ h => h) (Or.inl ⟨by rfl, ?_⟩) (by assumption) ?_
        rotate_left
        · (intro W hSw; (try dsimp only at hSw); go_simp; try (with_reducible rfl))
        try simp only [Act.put, List.setIfInBounds_toArray, List.set_cons_zero, List.set_cons_succ]
        refine wpAnyH_ready (rs := [15]) (by kernel_rfl) (by simp) ?_
        refine (AllReadyH.cons (o := { dst := some 116, op := _, type := _, pos := _, after := _, guard := _ }) rfl (fun K hK => ?_) AllReadyH.nil)
        go_simp
        refine (Wsr.rsameReply_self _ yr g8 gc8 d8 dc8 r8 rc8 yga ygc yda ydc yra yrc HRT0.out (HYR.out _ HLT0.out) HCE.out).mono ?_
        rintro e1 T1 ⟨rfl, hg1⟩
        have HLT1 := mkH (HLT0.out.below hg1.below)
        have HBT1 := mkH (HBT0.out.trans (hg1.below.mono HBT0.out.size))
        have HXT1 := mkH (bx_bel HXT0.out hg1.below)
        clear hg1
        go_wp2_with fail
        refine hK.out _ _ ?_ (fun hHeld => ?_)
        · exact ⟨load_pv HXT1.out, lookY HLT1.out.y hcw HYA.out, lookI HLT1.out.i hcw HLM.out⟩
        clear hK K
        try simp only [Act.put, List.setIfInBounds_toArray, List.set_cons_zero, List.set_cons_succ]
        refine wpAnyH_take (i := 16) (oi := { dst := some 117, op := _, type := _, pos := _, after := _, guard := _ }) (v := ?_) rfl (by kernel_rfl) (by kernel_rfl) (by kernel_rfl) (fun _ _ _ h => h) (Or.inl ⟨by rfl, ?_⟩) (by assumption) ?_
        rotate_left
        · (intro W hSw; (try dsimp only at hSw); go_simp; try (with_reducible rfl))
        try simp only [Act.put, List.setIfInBounds_toArray, List.set_cons_zero, List.set_cons_succ]
        refine wpAnyH_take (i := 17) (oi := { dst := some 118, op := _, type := _, pos := _, after := _, guard := _ }) (v := ?_) rfl (by kernel_rfl) (by kernel_rfl) (by kernel_rfl) (fun _ _ _ h => h) (Or.inl ⟨by rfl, ?_⟩) (by assumption) ?_
        rotate_left
        · (intro W hSw; (try dsimp only at hSw); go_simp; try (with_reducible rfl))
        try simp only [Act.put, List.setIfInBounds_toArray, List.set_cons_zero, List.set_cons_succ]
        refine wpAnyH_take (i := 18) (oi := { dst := some 119, op := _, type := _, pos := _, after := _, guard := _ }) (v := ?_) rfl (by kernel_rfl) (by kernel_rfl) (by kernel_rfl) (fun _ _ _ h => h) (Or.inl ⟨by rfl, ?_⟩) (by assumption) ?_
        rotate_left
        · (intro W hSw; (try dsimp only at hSw); go_simp; try (with_reducible rfl))
        try simp only [Act.put, List.setIfInBounds_toArray, List.set_cons_zero, List.set_cons_succ]
        refine wpAnyH_take (i := 19) (oi := { dst := some 120, op := _, type := _, pos := _, after := _, guard := _ }) (v := ?_) rfl (by kernel_rfl) (by kernel_rfl) (by kernel_rfl) (fun _ _ _ h => h) (Or.inl ⟨by rfl, ?_⟩) (by assumption) ?_
        rotate_left
        · (intro W hSw; (try dsimp only at hSw); go_simp; try (with_reducible rfl))
        try simp only [Act.put, List.setIfInBounds_toArray, List.set_cons_zero, List.set_cons_succ]
        refine wpAnyH_take (i := 20) (oi := { dst := some 121, op := _, type := _, pos := _, after := _, guard := _ }) (v := ?_) rfl (by kernel_rfl) (by kernel_rfl) (by kernel_rfl) (fun _ _ _ h => h) (Or.inl ⟨by rfl, ?_⟩) (by assumption) ?_
        rotate_left
        · (intro W hSw; (try dsimp only at hSw); go_simp; try (with_reducible rfl))
        try simp only [Act.put, List.setIfInBounds_toArray, List.set_cons_zero, List.set_cons_succ]
        refine wpAnyH_take (i := 22) (oi := { dst := some 123, op := _, type := _, pos := _, after := _, guard := _ }) (v := ?_) rfl (by kernel_rfl) (by kernel_rfl) (by kernel_rfl) (fun _ _ _ h => h) (Or.inl ⟨by rfl, ?_⟩) (by assumption) ?_
        rotate_left
        · (intro W hSw; (try dsimp only at hSw); go_simp; try (with_reducible rfl))
        try simp only [Act.put, List.setIfInBounds_toArray, List.set_cons_zero, List.set_cons_succ]
        refine wpAnyH_take (i := 23) (oi := { dst := some 124, op := _, type := _, pos := _, after := _, guard := _ }) (v := ?_) rfl (by kernel_rfl) (by kernel_rfl) (by kernel_rfl) (fun _ _ _ h => h) (Or.inl ⟨by rfl, ?_⟩) (by assumption) ?_
        rotate_left
        · (intro W hSw; (try dsimp only at hSw); go_simp; try (with_reducible rfl))
        try simp only [Act.put, List.setIfInBounds_toArray, List.set_cons_zero, List.set_cons_succ]
        refine wpAnyH_take (i := 24) (oi := { dst := some 125, op := _, type := _, pos := _, after := _, guard := _ }) (v := ?_) rfl (by kernel_rfl) (by kernel_rfl) (by kernel_rfl) (fun _ _ _ h => h) (Or.inl ⟨by rfl, ?_⟩) (by assumption) ?_
        rotate_left
        · (intro W hSw; (try dsimp only at hSw); go_simp; try (with_reducible rfl))
        try simp only [Act.put, List.setIfInBounds_toArray, List.set_cons_zero, List.set_cons_succ]
        refine wpAnyH_ready (rs := [21]) (by kernel_rfl) (by simp) ?_
        refine (AllReadyH.cons (o := { dst := some 122, op := _, type := _, pos := _, after := _, guard := _ }) rfl (fun K hK => ?_) AllReadyH.nil)
        go_simp
        obtain ⟨Fq, hFq, -⟩ := HLT1.out.t
        refine (last_any hFq c hcw).mono ?_
        rintro e1 U2 ⟨rfl, hU2⟩
        have hU2' := hU2.symm
        clear hU2 hFq
        subst hU2'
        rw [HMN.out]
        go_wp2_with fail
        refine hK.out _ _ ?_ (fun hHeld => ?_)
        · exact ⟨load_pv HXT1.out, lookY HLT1.out.y hcw HYA.out, lookI HLT1.out.i hcw HLM.out⟩
        clear hK K
        try simp only [Act.put, List.setIfInBounds_toArray, List.set_cons_zero, List.set_cons_succ]
        refine wpAnyH_take (i := 25) (oi := { dst := some 126, op := _, type := _, pos := _, after := _, guard := _ }) (v := ?_) rfl (by kernel_rfl) (by kernel_rfl) (by kernel_rfl) (fun _ _ _ h => h) (Or.inl ⟨by rfl, ?_⟩) (by assumption) ?_
        rotate_left
        · (intro W hSw; (try dsimp only at hSw); go_simp; try (with_reducible rfl))
        try simp only [Act.put, List.setIfInBounds_toArray, List.set_cons_zero, List.set_cons_succ]
        refine wpAnyH_take (i := 26) (oi := { dst := some 127, op := _, type := _, pos := _, after := _, guard := _ }) (v := ?_) rfl (by kernel_rfl) (by kernel_rfl) (by kernel_rfl) (fun _ _ _ h => h) (Or.inl ⟨by rfl, ?_⟩) (by assumption) ?_
        rotate_left
        · (intro W hSw; (try dsimp only at hSw); go_simp; try (with_reducible rfl))
        try simp only [Act.put, List.setIfInBounds_toArray, List.set_cons_zero, List.set_cons_succ]
        refine wpAnyH_done (by kernel_rfl) ?_ _
        have hlkT := lookI HLT1.out.i hcw HLM.out
        by_cases hm1 : m ≤ 1
        · go_wp2_with fail
          refine ⟨⟨k + 1, l', ls', ys', by omega, by omega, by go_num, HLT1, HEQ, HBT1⟩, ?_⟩
          simp [intOf]; omega
        · have HE3 : Hid (lookE l' c (m - 1) = 16) := mkH (by unfold lookE; rw [HMN.out, if_neg (by unfold num; omega), if_neg (by unfold num; omega), if_pos (by omega)])
          have HK3 : Hid (lookK l' c (m - 1) = false) := mkH (by unfold lookK; rw [HMN.out]; simp; intro _ _; omega)
          go_wp2_with (first
            | (refine wpList_stn rfl (ty := 32) (x := .tmp 17) (y := .tmp 140) (cs := Pv _ g10 gc10 d10 dc10 r10 rc10) (zs := Sw.zP6) rfl rfl rfl (Sw.infoPv _ _ _ _ _ _ _) (Sw.sizePv _ _ _ _ _ _ _) (Pv_one _ _ _ _ _ _ _) (fun T4 hB hg => ?_); have HLT4 := mkH (HLT3.out.below hg.below); have HBT4 := mkH (HBT3.out.trans (hg.below.mono HBT3.out.size)); clear hB hg)
            | (go_at_call 8; obtain ⟨Fq, hFq, -⟩ := HLT1.out.t; refine (look_any hFq c (m - 1)).mono ?_; rintro e1 T3 ⟨g10, gc10, d10, dc10, r10, rc10, rfl, hr10, -, hcn10, hb10⟩; rw [HE3.out, HK3.out]; skip; have HLT3 := mkH (HLT1.out.below hb10); have HBT3 := mkH (HBT1.out.trans (hb10.mono HBT1.out.size)); clear hFq hb10 hcn10 hr10))
          refine ⟨⟨k + 1, l', ls', ys', by omega, by omega, by go_num, HLT4, HEQ, HBT4⟩, ?_⟩
          simp [intOf]; omega
    · have hc3 : (¬ (k : Int) < (acts.length : Int)) ∨ ((k : Int) < (acts.length : Int) ∧ ¬ (k : Int) < 60) := by omega
      rcases hc3 with c1 | ⟨c1, c2⟩
      · go_wp2_with (first | (go_at_call 11; refine (Sw.works_any _).mono ?_; rintro e1 W9 ⟨rfl, hb9⟩; have HB9 := mkH (HB.out.trans (hb9.mono HB.out.size)); clear hb9))
        go_ret
        exact ⟨rfl, HB9.out⟩
      · go_wp2_with (first | (go_at_call 11; refine (Sw.works_any _).mono ?_; rintro e1 W9 ⟨rfl, hb9⟩; have HB9 := mkH (HB.out.trans (hb9.mono HB.out.size)); clear hb9))
        go_ret
        exact ⟨rfl, HB9.out⟩
end Go.Proofs.Ytenkgpfeifflnaa.Sla
