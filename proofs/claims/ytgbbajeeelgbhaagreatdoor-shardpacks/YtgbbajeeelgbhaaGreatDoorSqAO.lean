/-
  QuC, joined by mrg.py.
-/
import Derived.Test.YtgbbajeeelgbhaaGreatDoorSqAJ
import Derived.Test.YtgbbajeeelgbhaaGreatDoorSqAN

namespace Go.Proofs.YtgbbajeeelgbhaaGreatDoor.Qc
open Go.RowKit Kt Gf Gk Gp Qm Qa Qb Ga Gb Gm Gd
open Gr (RowS Fl Gl Go' gC)
open Pl (Rg)
open Pr (Rw)
open Wi (Rp Cm)
open Wk (Cv)
open Wa (Pv RpM)
set_option linter.unusedVariables false
set_option linter.unusedSectionVars false
set_option linter.unusedSimpArgs false
set_option maxRecDepth 20000

/-- The token that counts. -/
def tokOf (c : Cm) : ByteArray := tkn (S c.token) (S c.body)
def sndE (cf : List Cf) (l : List E) (abt : Bool) (c : Cm) : Int := if ¬ (0 ≤ c.queue ∧ c.queue < (cf.length : Int)) then 11 else if c.group = [] then 2 else if abt = false then 14 else sendE (lookG cf l c.queue (S c.group) c.time) (tokOf c)
def sndR (cf : List Cf) (l : List E) (abt : Bool) (c : Cm) : Rp := if sndE cf l abt c = 0 then rpS (sendN (lookG cf l c.queue (S c.group) c.time) (tokOf c)) else rpE (sndE cf l abt c)
/-- What there is behind it. -/
def sndL (cf : List Cf) (l : List E) (abt : Bool) (c : Cm) : List E := if ¬ (0 ≤ c.queue ∧ c.queue < (cf.length : Int)) ∨ c.group = [] ∨ abt = false then l else
  if sendE (lookG cf l c.queue (S c.group) c.time) (tokOf c) = 0 then put id (lookL cf l c.queue (S c.group) c.time) ⟨c.queue, S c.group, sendG (lookG cf l c.queue (S c.group) c.time) c.time c.queue (S c.body) (tokOf c)⟩ else lookL cf l c.queue (S c.group) c.time
/-- What send hands back and leaves. -/
def SdP (w : World) (Xb Mb : Nat) (cf : List Cf) (sv : List Rg) (xs : List X) (qa : Option Addr) (qc : Nat) (sa : Option Addr) (sc : Nat) (c : Cm) (abt : Bool) (e : Ending) (w' : World) : Prop :=
  ∃ xs', e = .returned (.agg (Pv (sndR cf (xs.map X.p) abt c) none 0 none 0 none 0)) ∧ xs'.map X.p = sndL cf (xs.map X.p) abt c ∧ Ex w' Xb Mb cf sv xs' qa qc sa sc ∧ Fr (fun k => k = Mb) w w'
theorem Send_any (w : World) (g : G) (ka : Option Addr) (kc : Nat) (ma : Option Addr) (mc : Nat) (h : Gl w g ka kc ma mc) (hk : g.kept.length ≤ 1000000000) (hm : g.marks.length ≤ 1000000000) (ho : Sm g.next) (now frm : Int) (body token : ByteArray) (hT : Dt.Tb w) (hbody : body.size ≤ 100000) :
    Calls Tryz.prog 267 #[.agg (gC g ka kc ma mc), .int .i64 now, .int .i64 frm, .string body, .string token] w fun e w' => ∃ ka' kc' ma' mc', e = .returned (.tuple #[.agg (gC (sendG g now frm body (tkn token body)) ka' kc' ma' mc'), .int .i64 (sendN g (tkn token body)), .int .i64 (sendE g (tkn token body))]) ∧ Go' w.heap.size w' (sendG g now frm body (tkn token body)) ka' kc' ma' mc' ∧ Below w.heap.size w w' := by
  by_cases htk : token = ⟨#[]⟩
  · exact Send_emp w g ka kc ma mc h hk hm ho now frm body token htk hT hbody _ rfl
  · exact Send_tok w g ka kc ma mc h hk hm ho now frm body token htk _ rfl
theorem tb_map {w w' : World} {b : Nat} (h : Dt.Tb w) (hf : Fr (fun k => k = b) w w') (hb : Bare w b) : Dt.Tb w' := fun i hi => by
  have h1 := h i hi
  rw [World.cell?_of_block (w := w) (a := ⟨0, i, none⟩) (hf.heap (World.block_lt_of_cell? w _ h1) (hb _ _ h1))]
  exact h1
theorem tb_bel {w w' : World} (h : Dt.Tb w) (hb : Below w.heap.size w w') : Dt.Tb w' := h.below hb h.size
theorem len_send (g : G) (now frm : Int) (body tok : ByteArray) : (sendG g now frm body tok).kept.length ≤ Nat.max g.kept.length 12 ∧ (sendG g now frm body tok).marks.length ≤ Nat.max g.marks.length 40 := by
  unfold sendG
  split
  · exact ⟨Nat.le_max_left _ _, Nat.le_max_left _ _⟩
  · split
    · exact ⟨Nat.le_max_left _ _, Nat.le_max_left _ _⟩
    · rename_i h
      simp only [List.length_append, List.length_singleton]
      have h1 : ¬ 12 ≤ g.kept.length := fun x => h (.inl x)
      have h2 : ¬ 40 ≤ g.marks.length := fun x => h (.inr x)
      exact ⟨Nat.le_trans (by omega) (Nat.le_max_right _ _), Nat.le_trans (by omega) (Nat.le_max_right _ _)⟩
theorem ok_snd {g : G} (h : Ok g) {now frm : Int} (hn : Sm now) (hf : Sm frm) (hx : g.next + 1 ≤ 1152921504606846976) (body tok : ByteArray) : Ok (sendG g now frm body tok) := by
  obtain ⟨h1, h2⟩ := len_send g now frm body tok
  refine ⟨ok_send h.1 hn hf hx body tok, Nat.le_trans h1 (Nat.max_le.2 ⟨h.2.1, by omega⟩), Nat.le_trans h2 (Nat.max_le.2 ⟨h.2.2, by omega⟩)⟩
theorem len_xs2 {cf : List Cf} {xs xs2 : List X} {q : Int} {s : ByteArray} {now : Int} (h : xs2.map X.p = lookL cf (xs.map X.p) q s now) (hl : xs.length ≤ 1000000) : xs2.length ≤ 1000000000 := by
  have h1 := congrArg List.length h
  rw [List.length_map] at h1
  have h2 : (lookL cf (xs.map X.p) q s now).length ≤ xs.length + 1 := by
    unfold lookL
    split
    · simp
    · exact Nat.le_trans (len_put_le _ _) (by simp)
  omega
theorem isEmpty_false {t : ByteArray} (h : t ≠ ⟨#[]⟩) : t.toList.isEmpty = false := by
  rw [Bool.eq_false_iff, ne_eq, List.isEmpty_iff, ByteArray.toList_eq]
  intro e
  apply h
  cases t
  simp only [ByteArray.mk.injEq]
  exact Array.toList_eq_nil_iff.1 e
theorem S_ne {l : List UInt8} (h : l ≠ []) : S l ≠ ⟨#[]⟩ := fun e => h (by have := congrArg (fun x => x.data.toList) e; simpa [S] using this)

set_option maxHeartbeats 4000000 in
theorem send_noq {w : World} {Xb Mb : Nat} {cf : List Cf} {sv : List Rg} {xs : List X} {qa : Option Addr} {qc : Nat} {sa : Option Addr} {sc : Nat} (h : Ex w Xb Mb cf sv xs qa qc sa sc) (c : Cm) (d : Value) (ab : Value) (abt : Bool) (hb : ¬ (0 ≤ c.queue ∧ c.queue < (cf.length : Int))) : Calls Tryz.prog 223 #[.pointer (some ⟨Xb, 0, none⟩), .agg (Cv c d), ab] w fun e w' => SdP w Xb Mb cf sv xs qa qc sa sc c abt e w' := by
  have HE : Hid (sndR cf (xs.map X.p) abt c = rpE 11 ∧ sndL cf (xs.map X.p) abt c = xs.map X.p) := mkH (by
    have e : sndE cf (xs.map X.p) abt c = 11 := by unfold sndE; rw [if_pos hb]
    refine ⟨by unfold sndR; rw [e]; rfl, by unfold sndL; rw [if_pos (.inl hb)]⟩)
  have hd : decide (0 ≤ c.queue ∧ c.queue < (cf.length : Int)) = false := by simpa using hb
  have hmx : Tryz.prog.follows .mixedOrders = true := by kernel_rfl
  have HX := mkH h
  have HS0 := mkH (And.intro (((Below.refl w.heap.size w).alloc (Nat.le_refl _) (.cells (Cv c d) 39)).alloc (by simp) (.cells #[Value.int .i64 0, .int .i64 0, .int .i64 0, .slice none 0 0, .slice none 0 0, .slice none 0 0] 46)) ((Bx.new w (Cv c d) 39).alloc (.cells #[Value.int .i64 0, .int .i64 0, .int .i64 0, .slice none 0 0, .slice none 0 0, .slice none 0 0] 46)))
  have HR := mkH (Bx.new1 w (.cells (Cv c d) 39) #[Value.int .i64 0, .int .i64 0, .int .i64 0, .slice none 0 0, .slice none 0 0, .slice none 0 0] 46)
  clear h hb
  go_enter Tryz.func223, Tryz.ntmps223
  go_upto_region 1 with fail
  generalize (w.alloc (.cells (Cv c d) 39)).alloc (.cells #[Value.int .i64 0, .int .i64 0, .int .i64 0, .slice none 0 0, .slice none 0 0, .slice none 0 0] 46) = w0 at *
  obtain ⟨R, hR⟩ : ∃ R, w.heap.size + 1 = R := ⟨_, rfl⟩
  rw [hR] at HR ⊢
  have hwR : w.heap.size < R := by omega
  clear hR
  have HX0 := mkH (HX.out.below HS0.out.1)
  have c4 : w0.cell? ⟨w.heap.size, 4, none⟩ = some (.int .i64 c.queue) := HS0.out.2.cell 4 _ rfl
  have c5 : w0.cell? ⟨w.heap.size, 5, none⟩ = some (.string (S c.group)) := HS0.out.2.cell 5 _ rfl
  go_wp2_with (first
    | (go_at_call 181; refine (hasQueue_any HX0.out.bx c.queue).mono ?_; rintro e1 w1 ⟨rfl, h1⟩; have h2 := h1.symm; clear h1; subst h2)
    | (go_at_call 221; refine (refusal_any w0 11).mono ?_; rintro e2 w2 ⟨rfl, hb2⟩; have HR2 := mkH (HR.out.bel hb2); have HB2 := mkH (HS0.out.1.trans (hb2.mono HS0.out.1.size)); clear hb2)
    | (refine wpList_st rfl (ty := 46) (x := .tmp 6) (y := .tmp 17) (b := R) (cs := Pv (rpE 11) none 0 none 0 none 0) (old := #[Value.int .i64 0, .int .i64 0, .int .i64 0, .slice none 0 0, .slice none 0 0, .slice none 0 0]) (t := 46) rfl rfl rfl HR2.out Wa.infoP rfl (Wa.Pv_one _ _ _ _ _ _ _) ?_))
  have hR3 := HR2.out.row (cs := Pv (rpE 11) none 0 none 0 none 0)
  have hB3 := below_setRow HB2.out (Nat.le_of_lt hwR) (Pv (rpE 11) none 0 none 0 none 0)
  refine bodyPost_ret (res_c rfl _ _ _ rfl (Wa.load_pv hR3)) rfl ⟨xs, ?_, ?_, HX.out.below hB3, Fr.ofBelow hB3⟩
  · rw [HE.out.1]
  · rw [HE.out.2]

set_option maxHeartbeats 4000000 in
theorem send_emp {w : World} {Xb Mb : Nat} {cf : List Cf} {sv : List Rg} {xs : List X} {qa : Option Addr} {qc : Nat} {sa : Option Addr} {sc : Nat} (h : Ex w Xb Mb cf sv xs qa qc sa sc) (c : Cm) (d : Value) (ab : Value) (abt : Bool) (hb : 0 ≤ c.queue ∧ c.queue < (cf.length : Int)) (hg : c.group = []) : Calls Tryz.prog 223 #[.pointer (some ⟨Xb, 0, none⟩), .agg (Cv c d), ab] w fun e w' => SdP w Xb Mb cf sv xs qa qc sa sc c abt e w' := by
  have HE : Hid (sndR cf (xs.map X.p) abt c = rpE 2 ∧ sndL cf (xs.map X.p) abt c = xs.map X.p) := mkH (by
    have e : sndE cf (xs.map X.p) abt c = 2 := by unfold sndE; rw [if_neg (by simpa using hb), if_pos hg]
    refine ⟨by unfold sndR; rw [e]; rfl, by unfold sndL; rw [if_pos (.inr (.inl hg))]⟩)
  have hd : decide (0 ≤ c.queue ∧ c.queue < (cf.length : Int)) = true := by simpa using hb
  have hge : (S c.group).toList.isEmpty = true := by rw [hg]; simp [S]
  have hmx : Tryz.prog.follows .mixedOrders = true := by kernel_rfl
  have HX := mkH h
  have HS0 := mkH (And.intro (((Below.refl w.heap.size w).alloc (Nat.le_refl _) (.cells (Cv c d) 39)).alloc (by simp) (.cells #[Value.int .i64 0, .int .i64 0, .int .i64 0, .slice none 0 0, .slice none 0 0, .slice none 0 0] 46)) ((Bx.new w (Cv c d) 39).alloc (.cells #[Value.int .i64 0, .int .i64 0, .int .i64 0, .slice none 0 0, .slice none 0 0, .slice none 0 0] 46)))
  have HR := mkH (Bx.new1 w (.cells (Cv c d) 39) #[Value.int .i64 0, .int .i64 0, .int .i64 0, .slice none 0 0, .slice none 0 0, .slice none 0 0] 46)
  clear h hb hg
  go_enter Tryz.func223, Tryz.ntmps223
  go_upto_region 1 with fail
  generalize (w.alloc (.cells (Cv c d) 39)).alloc (.cells #[Value.int .i64 0, .int .i64 0, .int .i64 0, .slice none 0 0, .slice none 0 0, .slice none 0 0] 46) = w0 at *
  obtain ⟨R, hR⟩ : ∃ R, w.heap.size + 1 = R := ⟨_, rfl⟩
  rw [hR] at HR ⊢
  have hwR : w.heap.size < R := by omega
  clear hR
  have HX0 := mkH (HX.out.below HS0.out.1)
  have c4 : w0.cell? ⟨w.heap.size, 4, none⟩ = some (.int .i64 c.queue) := HS0.out.2.cell 4 _ rfl
  have c5 : w0.cell? ⟨w.heap.size, 5, none⟩ = some (.string (S c.group)) := HS0.out.2.cell 5 _ rfl
  go_wp2_with (first
    | (go_at_call 181; refine (hasQueue_any HX0.out.bx c.queue).mono ?_; rintro e1 w1 ⟨rfl, h1⟩; have h2 := h1.symm; clear h1; subst h2)
    | (go_at_call 221; refine (refusal_any w0 2).mono ?_; rintro e2 w2 ⟨rfl, hb2⟩; have HR2 := mkH (HR.out.bel hb2); have HB2 := mkH (HS0.out.1.trans (hb2.mono HS0.out.1.size)); clear hb2)
    | (refine wpList_st rfl (ty := 46) (x := .tmp 6) (y := .tmp 22) (b := R) (cs := Pv (rpE 2) none 0 none 0 none 0) (old := #[Value.int .i64 0, .int .i64 0, .int .i64 0, .slice none 0 0, .slice none 0 0, .slice none 0 0]) (t := 46) rfl rfl rfl HR2.out Wa.infoP rfl (Wa.Pv_one _ _ _ _ _ _ _) ?_))
  have hR3 := HR2.out.row (cs := Pv (rpE 2) none 0 none 0 none 0)
  have hB3 := below_setRow HB2.out (Nat.le_of_lt hwR) (Pv (rpE 2) none 0 none 0 none 0)
  refine bodyPost_ret (res_c rfl _ _ _ rfl (Wa.load_pv hR3)) rfl ⟨xs, ?_, ?_, HX.out.below hB3, Fr.ofBelow hB3⟩
  · rw [HE.out.1]
  · rw [HE.out.2]

set_option maxHeartbeats 4000000 in
theorem send_mvd {w : World} {Xb Mb : Nat} {cf : List Cf} {sv : List Rg} {xs : List X} {qa : Option Addr} {qc : Nat} {sa : Option Addr} {sc : Nat} (h : Ex w Xb Mb cf sv xs qa qc sa sc) (c : Cm) (d : Value) (ab : Value) (abt : Bool) (habt : ∀ W, Below w.heap.size w W → Calls Tryz.prog 266 #[.pointer (some ⟨Xb, 0, none⟩), .string (S c.group), ab] W fun e w' => e = .returned (.bool abt) ∧ Below W.heap.size W w') (hb : 0 ≤ c.queue ∧ c.queue < (cf.length : Int)) (hg : c.group ≠ []) (ha : abt = false) : Calls Tryz.prog 223 #[.pointer (some ⟨Xb, 0, none⟩), .agg (Cv c d), ab] w fun e w' => SdP w Xb Mb cf sv xs qa qc sa sc c abt e w' := by
  have HE : Hid (sndR cf (xs.map X.p) abt c = rpE 14 ∧ sndL cf (xs.map X.p) abt c = xs.map X.p) := mkH (by
    have e : sndE cf (xs.map X.p) abt c = 14 := by unfold sndE; rw [if_neg (by simpa using hb), if_neg hg, if_pos ha]
    refine ⟨by unfold sndR; rw [e]; rfl, by unfold sndL; rw [if_pos (.inr (.inr ha))]⟩)
  have hd : decide (0 ≤ c.queue ∧ c.queue < (cf.length : Int)) = true := by simpa using hb
  have hge : (S c.group).toList.isEmpty = false := isEmpty_false (S_ne hg)
  have HAB := mkH habt
  subst ha
  have hmx : Tryz.prog.follows .mixedOrders = true := by kernel_rfl
  have HX := mkH h
  have HS0 := mkH (And.intro (((Below.refl w.heap.size w).alloc (Nat.le_refl _) (.cells (Cv c d) 39)).alloc (by simp) (.cells #[Value.int .i64 0, .int .i64 0, .int .i64 0, .slice none 0 0, .slice none 0 0, .slice none 0 0] 46)) ((Bx.new w (Cv c d) 39).alloc (.cells #[Value.int .i64 0, .int .i64 0, .int .i64 0, .slice none 0 0, .slice none 0 0, .slice none 0 0] 46)))
  have HR := mkH (Bx.new1 w (.cells (Cv c d) 39) #[Value.int .i64 0, .int .i64 0, .int .i64 0, .slice none 0 0, .slice none 0 0, .slice none 0 0] 46)
  clear h hb hg habt
  go_enter Tryz.func223, Tryz.ntmps223
  go_upto_region 1 with fail
  generalize (w.alloc (.cells (Cv c d) 39)).alloc (.cells #[Value.int .i64 0, .int .i64 0, .int .i64 0, .slice none 0 0, .slice none 0 0, .slice none 0 0] 46) = w0 at *
  obtain ⟨R, hR⟩ : ∃ R, w.heap.size + 1 = R := ⟨_, rfl⟩
  rw [hR] at HR ⊢
  have hwR : w.heap.size < R := by omega
  clear hR
  have HX0 := mkH (HX.out.below HS0.out.1)
  have c4 : w0.cell? ⟨w.heap.size, 4, none⟩ = some (.int .i64 c.queue) := HS0.out.2.cell 4 _ rfl
  have c5 : w0.cell? ⟨w.heap.size, 5, none⟩ = some (.string (S c.group)) := HS0.out.2.cell 5 _ rfl
  go_wp2_with (first
    | (go_at_call 181; refine (hasQueue_any HX0.out.bx c.queue).mono ?_; rintro e1 w1 ⟨rfl, h1⟩; have h2 := h1.symm; clear h1; subst h2)
    | (go_at_call 266; refine (HAB.out w0 HS0.out.1).mono ?_; rintro e3 w3 ⟨rfl, hb3⟩; have HB3 := mkH (HS0.out.1.trans (hb3.mono HS0.out.1.size)); have HR3 := mkH (HR.out.bel hb3); clear hb3)
    | (go_at_call 221; refine (refusal_any w3 14).mono ?_; rintro e2 w2 ⟨rfl, hb2⟩; have HR2 := mkH (HR3.out.bel hb2); have HB2 := mkH (HB3.out.trans (hb2.mono HB3.out.size)); clear hb2)
    | (refine wpList_st rfl (ty := 46) (x := .tmp 6) (y := .tmp 30) (b := R) (cs := Pv (rpE 14) none 0 none 0 none 0) (old := #[Value.int .i64 0, .int .i64 0, .int .i64 0, .slice none 0 0, .slice none 0 0, .slice none 0 0]) (t := 46) rfl rfl rfl HR2.out Wa.infoP rfl (Wa.Pv_one _ _ _ _ _ _ _) ?_))
  have hR3 := HR2.out.row (cs := Pv (rpE 14) none 0 none 0 none 0)
  have hB3 := below_setRow HB2.out (Nat.le_of_lt hwR) (Pv (rpE 14) none 0 none 0 none 0)
  refine bodyPost_ret (res_c rfl _ _ _ rfl (Wa.load_pv hR3)) rfl ⟨xs, ?_, ?_, HX.out.below hB3, Fr.ofBelow hB3⟩
  · rw [HE.out.1]
  · rw [HE.out.2]

set_option maxHeartbeats 16000000 in
theorem send_ok {w : World} {Xb Mb : Nat} {cf : List Cf} {sv : List Rg} {xs : List X} {qa : Option Addr} {qc : Nat} {sa : Option Addr} {sc : Nat} (h : Ex w Xb Mb cf sv xs qa qc sa sc) (c : Cm) (d : Value) (ab : Value) (abt : Bool) (habt : ∀ W, Below w.heap.size w W → Calls Tryz.prog 266 #[.pointer (some ⟨Xb, 0, none⟩), .string (S c.group), ab] W fun e w' => e = .returned (.bool abt) ∧ Below W.heap.size W w') (hb : 0 ≤ c.queue ∧ c.queue < (cf.length : Int)) (hg : c.group ≠ []) (ha : abt = true) (hTb : Dt.Tb w) (htm : Sm c.time) (hgl : c.group.length ≤ 1000000000) (hbody : (S c.body).size ≤ 100000) (hln : xs.length ≤ 1000000) (hnx : (lookG cf (xs.map X.p) c.queue (S c.group) c.time).next + 1 ≤ 1152921504606846976) : Calls Tryz.prog 223 #[.pointer (some ⟨Xb, 0, none⟩), .agg (Cv c d), ab] w fun e w' => SdP w Xb Mb cf sv xs qa qc sa sc c abt e w' := by
  have hig : (Tryz.prog.info? 126).map (·.size) = some 4 := by kernel_rfl
  have hwf : wfK c.queue (S c.group) := ⟨by have := h.n6; exact WalkArith.wf_i64 (by omega), by rw [S_size]; unfold maxLen; omega⟩
  have HWF := mkH hwf
  have hik : (Tryz.prog.info? 192).map (·.size) = some 2 := by kernel_rfl
  have HTM := mkH htm
  have HQB := mkH hb
  obtain ⟨g1, hg1⟩ : ∃ g, lookG cf (xs.map X.p) c.queue (S c.group) c.time = g := ⟨_, rfl⟩
  obtain ⟨T, hTK⟩ : ∃ T, tkn (S c.token) (S c.body) = T := ⟨_, rfl⟩
  have HTK := mkH hTK
  obtain ⟨se, hse⟩ : ∃ x, sendE g1 T = x := ⟨_, rfl⟩
  obtain ⟨sn, hsn⟩ : ∃ x, sendN g1 T = x := ⟨_, rfl⟩
  have HSE := mkH hse
  have HSN := mkH hsn
  have hqS : Sm c.queue := by have := h.n6; unfold Sm; omega
  have HOK1 : Hid (Ok g1) := mkH (by
    rw [← hg1]
    unfold lookG
    rw [at_p]
    cases hat : atX X.p xs c.queue (S c.group) with
    | none => exact ok_fresh
    | some x => exact ok_exp (h.g x (atX_mem hat).1).2.1 _ _)
  have HNX : Hid (g1.next + 1 ≤ 1152921504606846976) := mkH (hg1 ▸ hnx)
  have HLN : Hid (xs.length ≤ 1000000000) := mkH (by omega)
  have HLN2 := mkH hln
  have HG1 : Hid (lookG cf (xs.map X.p) c.queue (S c.group) c.time = g1 ∧ True) := mkH ⟨hg1, trivial⟩
  have HE : Hid (sndR cf (xs.map X.p) abt c = (if sendE g1 T = 0 then rpS (sendN g1 T) else rpE (sendE g1 T)) ∧ sndL cf (xs.map X.p) abt c = (if sendE g1 T = 0 then put id (lookL cf (xs.map X.p) c.queue (S c.group) c.time) ⟨c.queue, S c.group, sendG g1 c.time c.queue (S c.body) T⟩ else lookL cf (xs.map X.p) c.queue (S c.group) c.time)) := mkH (by
    have e : sndE cf (xs.map X.p) abt c = sendE g1 T := by unfold sndE; rw [if_neg (by simpa using hb), if_neg hg, if_neg (by simp [ha]), hg1]; unfold tokOf; rw [hTK]
    refine ⟨?_, ?_⟩
    · unfold sndR; rw [e, hg1]; unfold tokOf; rw [hTK]
    · unfold sndL
      rw [if_neg (by rintro (x | x | x); exact x hb; exact hg x; simp [ha] at x), hg1]
      unfold tokOf
      rw [hTK])
  rw [hse, hsn] at HE
  have hd : decide (0 ≤ c.queue ∧ c.queue < (cf.length : Int)) = true := by simpa using hb
  have hge : (S c.group).toList.isEmpty = false := isEmpty_false (S_ne hg)
  have HAB := mkH habt
  have HT := mkH hTb
  subst ha
  have hmx : Tryz.prog.follows .mixedOrders = true := by kernel_rfl
  have HX := mkH h
  have HS0 := mkH (And.intro (((Below.refl w.heap.size w).alloc (Nat.le_refl _) (.cells (Cv c d) 39)).alloc (by simp) (.cells #[Value.int .i64 0, .int .i64 0, .int .i64 0, .slice none 0 0, .slice none 0 0, .slice none 0 0] 46)) ((Bx.new w (Cv c d) 39).alloc (.cells #[Value.int .i64 0, .int .i64 0, .int .i64 0, .slice none 0 0, .slice none 0 0, .slice none 0 0] 46)))
  have HR := mkH (Bx.new1 w (.cells (Cv c d) 39) #[Value.int .i64 0, .int .i64 0, .int .i64 0, .slice none 0 0, .slice none 0 0, .slice none 0 0] 46)
  clear h hb hg habt hTb htm hnx hg1 hTK hwf hgl hln hse hsn
  go_enter Tryz.func223, Tryz.ntmps223
  go_upto_region 1 with fail
  generalize (w.alloc (.cells (Cv c d) 39)).alloc (.cells #[Value.int .i64 0, .int .i64 0, .int .i64 0, .slice none 0 0, .slice none 0 0, .slice none 0 0] 46) = w0 at *
  obtain ⟨R, hR⟩ : ∃ R, w.heap.size + 1 = R := ⟨_, rfl⟩
  rw [hR] at HR ⊢
  have hwR : w.heap.size < R := by omega
  clear hR
  have HX0 := mkH (HX.out.below HS0.out.1)
  have c4 : w0.cell? ⟨w.heap.size, 4, none⟩ = some (.int .i64 c.queue) := HS0.out.2.cell 4 _ rfl
  have c5 : w0.cell? ⟨w.heap.size, 5, none⟩ = some (.string (S c.group)) := HS0.out.2.cell 5 _ rfl
  go_wp2_with (first
    | (go_at_call 181; refine (hasQueue_any HX0.out.bx c.queue).mono ?_; rintro e1 w1 ⟨rfl, h1⟩; have h2 := h1.symm; clear h1; subst h2)
    | (go_at_call 266; refine (HAB.out w0 HS0.out.1).mono ?_; rintro e3 w3 ⟨rfl, hb3⟩; have HB3 := mkH (HS0.out.1.trans (hb3.mono HS0.out.1.size)); have HR3 := mkH (HR.out.bel hb3); have HC3 := mkH (HS0.out.2.bel hb3); have d4 : w3.cell? ⟨w.heap.size, 4, none⟩ = some (.int .i64 c.queue) := HC3.out.cell 4 _ rfl; have d5 : w3.cell? ⟨w.heap.size, 5, none⟩ = some (.string (S c.group)) := HC3.out.cell 5 _ rfl; clear hb3)
    | (refine wpList_stn rfl (ty := 192) (x := .tmp 7) (y := .tmp 35) (cs := #[Value.int .i64 c.queue, .string (S c.group)]) (zs := #[Value.int .i64 0, .string ⟨#[]⟩]) rfl rfl rfl hik rfl (by simp [Value.oneCell']) (fun V4 hK4 hg4 => ?_); have HK4 := mkH hK4; have HG4 := mkH hg4; clear hK4 hg4))
  have HS4 := mkH (And.intro (HC3.out.bel HG4.out) HK4.out)
  have HR4 := mkH (HR3.out.bel HG4.out)
  have HX4 := mkH ((HX.out.below HB3.out).below HG4.out)
  have HB4 := mkH (HB3.out.trans (HG4.out.mono HB3.out.size))
  have HT4 : Hid (Dt.Tb V4) := mkH (HT.out.below HB4.out HT.out.size)
  obtain ⟨Kb, hKb⟩ : ∃ K, w3.heap.size = K := ⟨_, rfl⟩
  rw [hKb] at HS4 HK4 ⊢
  have hwK : w.heap.size < Kb := by rw [← hKb]; exact HC3.out.lt
  clear HK4 HG4 HB3 HR3 HC3 d4 d5 c4 c5 HS0 HX0 HR hKb
  refine wp_region_held_drew (S := fun W => Bx W w.heap.size (Cv c d) 39 ∧ Bx W Kb #[Value.int .i64 c.queue, .string (S c.group)] 192) hmx ⟨HS4.out.1.bel (below_drew V4), HS4.out.2.bel (below_drew V4)⟩ (fun hHeld => ?_)
  have HRV := mkH (HR4.out.bel (below_drew V4))
  have HXV := mkH (HX4.out.below (below_drew V4))
  have HTV := mkH (tb_bel HT4.out (below_drew V4))
  have HFV : Hid (Fr (fun k => k = Mb) w V4.drew) := mkH (Fr.ofBelow (HB4.out.trans ((below_drew V4).mono HB4.out.size)))
  have hRl : R < V4.drew.heap.size := HRV.out.lt
  have hKl : Kb < V4.drew.heap.size := hHeld.2.lt
  clear HS4 HR4 HX4 HT4 HB4
  generalize V4.drew = V at *
  refine wpAnyH_take (i := 0) (oi := { dst := some 37, op := _, type := _, pos := _, after := _, guard := _ }) (v := ?_) rfl (by kernel_rfl) (by kernel_rfl) (by kernel_rfl) (fun _ _ _ h => h) (Or.inl ⟨by rfl, ?_⟩) (by assumption) ?_
  rotate_left
  · (intro W hSw; (try dsimp only at hSw); go_simp; try (with_reducible rfl))
  try simp only [Act.put, List.setIfInBounds_toArray, List.set_cons_zero, List.set_cons_succ]
  refine wpAnyH_take (i := 1) (oi := { dst := some 38, op := _, type := _, pos := _, after := _, guard := _ }) (v := ?_) rfl (by kernel_rfl) (by kernel_rfl) (by kernel_rfl) (fun _ _ _ h => h) (Or.inl ⟨by rfl, ?_⟩) (by assumption) ?_
  rotate_left
  · (intro W hSw; (try dsimp only at hSw); have c0 := hSw.2.cell 0 _ rfl; have c1 := hSw.2.cell 1 _ rfl; go_simp; try (with_reducible rfl))
  try simp only [Act.put, List.setIfInBounds_toArray, List.set_cons_zero, List.set_cons_succ]
  refine wpAnyH_take (i := 2) (oi := { dst := some 39, op := _, type := _, pos := _, after := _, guard := _ }) (v := ?_) rfl (by kernel_rfl) (by kernel_rfl) (by kernel_rfl) (fun _ _ _ h => h) (Or.inl ⟨by rfl, ?_⟩) (by assumption) ?_
  rotate_left
  · (intro W hSw; (try dsimp only at hSw); go_simp; try (with_reducible rfl))
  try simp only [Act.put, List.setIfInBounds_toArray, List.set_cons_zero, List.set_cons_succ]
  refine wpAnyH_take (i := 3) (oi := { dst := some 40, op := _, type := _, pos := _, after := _, guard := _ }) (v := ?_) rfl (by kernel_rfl) (by kernel_rfl) (by kernel_rfl) (fun _ _ _ h => h) (Or.inl ⟨by rfl, ?_⟩) (by assumption) ?_
  rotate_left
  · (intro W hSw; (try dsimp only at hSw); have c3 : W.cell? ⟨w.heap.size, 3, none⟩ = some (.int .i64 c.time) := hSw.1.cell 3 _ rfl; go_simp; try (with_reducible rfl))
  try simp only [Act.put, List.setIfInBounds_toArray, List.set_cons_zero, List.set_cons_succ]
  refine wpAnyH_take (i := 5) (oi := { dst := some 42, op := _, type := _, pos := _, after := _, guard := _ }) (v := ?_) rfl (by kernel_rfl) (by kernel_rfl) (by kernel_rfl) (fun _ _ _ h => h) (Or.inl ⟨by rfl, ?_⟩) (by assumption) ?_
  rotate_left
  · (intro W hSw; (try dsimp only at hSw); go_simp; try (with_reducible rfl))
  try simp only [Act.put, List.setIfInBounds_toArray, List.set_cons_zero, List.set_cons_succ]
  refine wpAnyH_take (i := 6) (oi := { dst := some 43, op := _, type := _, pos := _, after := _, guard := _ }) (v := ?_) rfl (by kernel_rfl) (by kernel_rfl) (by kernel_rfl) (fun _ _ _ h => h) (Or.inl ⟨by rfl, ?_⟩) (by assumption) ?_
  rotate_left
  · (intro W hSw; (try dsimp only at hSw); have c3 : W.cell? ⟨w.heap.size, 3, none⟩ = some (.int .i64 c.time) := hSw.1.cell 3 _ rfl; go_simp; try (with_reducible rfl))
  try simp only [Act.put, List.setIfInBounds_toArray, List.set_cons_zero, List.set_cons_succ]
  refine wpAnyH_take (i := 7) (oi := { dst := some 44, op := _, type := _, pos := _, after := _, guard := _ }) (v := ?_) rfl (by kernel_rfl) (by kernel_rfl) (by kernel_rfl) (fun _ _ _ h => h) (Or.inl ⟨by rfl, ?_⟩) (by assumption) ?_
  rotate_left
  · (intro W hSw; (try dsimp only at hSw); go_simp; try (with_reducible rfl))
  try simp only [Act.put, List.setIfInBounds_toArray, List.set_cons_zero, List.set_cons_succ]
  refine wpAnyH_take (i := 8) (oi := { dst := some 45, op := _, type := _, pos := _, after := _, guard := _ }) (v := ?_) rfl (by kernel_rfl) (by kernel_rfl) (by kernel_rfl) (fun _ _ _ h => h) (Or.inl ⟨by rfl, ?_⟩) (by assumption) ?_
  rotate_left
  · (intro W hSw; (try dsimp only at hSw); have c4 : W.cell? ⟨w.heap.size, 4, none⟩ = some (.int .i64 c.queue) := hSw.1.cell 4 _ rfl; go_simp; try (with_reducible rfl))
  try simp only [Act.put, List.setIfInBounds_toArray, List.set_cons_zero, List.set_cons_succ]
  refine wpAnyH_take (i := 9) (oi := { dst := some 46, op := _, type := _, pos := _, after := _, guard := _ }) (v := ?_) rfl (by kernel_rfl) (by kernel_rfl) (by kernel_rfl) (fun _ _ _ h => h) (Or.inl ⟨by rfl, ?_⟩) (by assumption) ?_
  rotate_left
  · (intro W hSw; (try dsimp only at hSw); go_simp; try (with_reducible rfl))
  try simp only [Act.put, List.setIfInBounds_toArray, List.set_cons_zero, List.set_cons_succ]
  refine wpAnyH_take (i := 10) (oi := { dst := some 47, op := _, type := _, pos := _, after := _, guard := _ }) (v := ?_) rfl (by kernel_rfl) (by kernel_rfl) (by kernel_rfl) (fun _ _ _ h => h) (Or.inl ⟨by rfl, ?_⟩) (by assumption) ?_
  rotate_left
  · (intro W hSw; (try dsimp only at hSw); have c6 : W.cell? ⟨w.heap.size, 6, none⟩ = some (.string (S c.body)) := hSw.1.cell 6 _ rfl; go_simp; try (with_reducible rfl))
  try simp only [Act.put, List.setIfInBounds_toArray, List.set_cons_zero, List.set_cons_succ]
  refine wpAnyH_take (i := 11) (oi := { dst := some 48, op := _, type := _, pos := _, after := _, guard := _ }) (v := ?_) rfl (by kernel_rfl) (by kernel_rfl) (by kernel_rfl) (fun _ _ _ h => h) (Or.inl ⟨by rfl, ?_⟩) (by assumption) ?_
  rotate_left
  · (intro W hSw; (try dsimp only at hSw); go_simp; try (with_reducible rfl))
  try simp only [Act.put, List.setIfInBounds_toArray, List.set_cons_zero, List.set_cons_succ]
  refine wpAnyH_take (i := 12) (oi := { dst := some 49, op := _, type := _, pos := _, after := _, guard := _ }) (v := ?_) rfl (by kernel_rfl) (by kernel_rfl) (by kernel_rfl) (fun _ _ _ h => h) (Or.inl ⟨by rfl, ?_⟩) (by assumption) ?_
  rotate_left
  · (intro W hSw; (try dsimp only at hSw); have c7 : W.cell? ⟨w.heap.size, 7, none⟩ = some (.string (S c.token)) := hSw.1.cell 7 _ rfl; go_simp; try (with_reducible rfl))
  try simp only [Act.put, List.setIfInBounds_toArray, List.set_cons_zero, List.set_cons_succ]
  refine wpAnyH_ready (rs := [4, 18]) (by kernel_rfl) (by simp) ?_
  refine (AllReadyH.cons (o := { dst := some 41, op := _, type := _, pos := _, after := _, guard := _ }) rfl (fun K hK => ?_) (AllReadyH.cons (o := { dst := some 8, op := _, type := _, pos := _, after := _, guard := _ }) rfl (fun K hK => ?_) AllReadyH.nil))
  · go_simp
    refine (look_any HXV.out HWF.out c.time HTM.out HLN.out).mono ?_
    rintro e1 V ⟨ka, kc, ma, mc, xs2, rfl, hgl, hxs2, hex, hfr⟩
    rw [HG1.out.1] at hgl ⊢
    have hbare := HXV.out.m.bare
    have HRV := mkH (HRV.out.fr hfr (hbare ⟨R, 0, none⟩ _ (HRV.out.cell 0 _ rfl)))
    have HTV := mkH (tb_map HTV.out hfr hbare)
    have HFV := mkH (HFV.out.trans hfr (fun k hk => .inl hk))
    have hk1 := hbare ⟨w.heap.size, 0, none⟩ _ (hHeld.1.cell 0 _ rfl)
    have hk2 := hbare ⟨Kb, 0, none⟩ _ (hHeld.2.cell 0 _ rfl)
    have HXV := mkH hex
    have HGL := mkH hgl
    have HXS := mkH hxs2
    have hwV : w.heap.size ≤ V.heap.size := HFV.out.size
    clear hex hgl hxs2 hbare
    go_wp2_with fail
    refine hK.out _ _ ?_ (fun hHeld => ?_)
    · exact ⟨hHeld.1.fr hfr hk1, hHeld.2.fr hfr hk2⟩
    clear hK K
    try simp only [Act.put, List.setIfInBounds_toArray, List.set_cons_zero, List.set_cons_succ]
    clear hfr hk1 hk2
    have hRl : R < V.heap.size := HRV.out.lt
    have hKl : Kb < V.heap.size := hHeld.2.lt
    refine wpAnyH_ready (rs := [13, 18]) (by kernel_rfl) (by simp) ?_
    refine (AllReadyH.cons (o := { dst := some 50, op := _, type := _, pos := _, after := _, guard := _ }) rfl (fun K hK => ?_) (AllReadyH.cons (o := { dst := some 8, op := _, type := _, pos := _, after := _, guard := _ }) rfl (fun K hK => ?_) AllReadyH.nil))
    · go_simp
      refine (Send_any _ g1 ka kc ma mc HGL.out (by have := HOK1.out.2.1; omega) (by have := HOK1.out.2.2; omega) HOK1.out.1.1 c.time c.queue (S c.body) (S c.token) HTV.out hbody).mono ?_
      rintro e2 V ⟨ka2, kc2, ma2, mc2, rfl, hgo, hbl⟩
      rw [HTK.out] at hgo ⊢
      rw [HSE.out, HSN.out]
      have HRV := mkH (HRV.out.bel hbl)
      have HXV := mkH (HXV.out.below hbl)
      have HTV := mkH (tb_bel HTV.out hbl)
      have HFV := mkH (HFV.out.trans (Fr.ofBelow (F := fun k => k = Mb) hbl) (fun k hk => .inl hk))
      have HGO : Hid (Go' w.heap.size V (sendG g1 c.time c.queue (S c.body) T) ka2 kc2 ma2 mc2) := mkH (hgo.mono hwV)
      have hRl : R < V.heap.size := HRV.out.lt
      have hKl : Kb < V.heap.size := (hHeld.2.bel hbl).lt
      have hwV : w.heap.size ≤ V.heap.size := HFV.out.size
      clear hgo
      go_wp2_with fail
      refine hK.out _ _ ?_ (fun hHeld => ?_)
      · exact ⟨hHeld.1.bel hbl, hHeld.2.bel hbl⟩
      clear hK K
      try simp only [Act.put, List.setIfInBounds_toArray, List.set_cons_zero, List.set_cons_succ]
      clear hbl
      refine wpAnyH_take (i := 14) (oi := { dst := some 36, op := _, type := _, pos := _, after := _, guard := _ }) (v := ?_) rfl (by kernel_rfl) (by kernel_rfl) (by kernel_rfl) (fun _ _ _ h => h) (Or.inl ⟨by rfl, ?_⟩) (by assumption) ?_
      rotate_left
      · (intro W hSw; (try dsimp only at hSw); go_simp; try (with_reducible rfl))
      try simp only [Act.put, List.setIfInBounds_toArray, List.set_cons_zero, List.set_cons_succ]
      refine wpAnyH_take (i := 15) (oi := { dst := some 51, op := _, type := _, pos := _, after := _, guard := _ }) (v := ?_) rfl (by kernel_rfl) (by kernel_rfl) (by kernel_rfl) (fun _ _ _ h => h) (Or.inl ⟨by rfl, ?_⟩) (by assumption) ?_
      rotate_left
      · (intro W hSw; (try dsimp only at hSw); go_simp; try (with_reducible rfl))
      try simp only [Act.put, List.setIfInBounds_toArray, List.set_cons_zero, List.set_cons_succ]
      refine wpAnyH_take (i := 16) (oi := { dst := some 52, op := _, type := _, pos := _, after := _, guard := _ }) (v := ?_) rfl (by kernel_rfl) (by kernel_rfl) (by kernel_rfl) (fun _ _ _ h => h) (Or.inl ⟨by rfl, ?_⟩) (by assumption) ?_
      rotate_left
      · (intro W hSw; (try dsimp only at hSw); go_simp; try (with_reducible rfl))
      try simp only [Act.put, List.setIfInBounds_toArray, List.set_cons_zero, List.set_cons_succ]
      refine wpAnyH_take (i := 17) (oi := { dst := some 53, op := _, type := _, pos := _, after := _, guard := _ }) (v := ?_) rfl (by kernel_rfl) (by kernel_rfl) (by kernel_rfl) (fun _ _ _ h => h) (Or.inl ⟨by rfl, ?_⟩) (by assumption) ?_
      rotate_left
      · (intro W hSw; (try dsimp only at hSw); go_simp; try (with_reducible rfl))
      try simp only [Act.put, List.setIfInBounds_toArray, List.set_cons_zero, List.set_cons_succ]
      refine wpAnyH_ready (rs := [18]) (by kernel_rfl) (by simp) ?_
      refine (AllReadyH.cons (o := { dst := some 8, op := _, type := _, pos := _, after := _, guard := _ }) rfl (fun K hK => ?_) AllReadyH.nil)
      have hal : Below V.heap.size V (V.alloc (.cells #[Value.int .i64 0, .slice none 0 0, .slice none 0 0, .string ⟨#[]⟩] 126)) := (Below.refl _ _).alloc (Nat.le_refl _) _
      have HCV := mkH (Bx.new V #[Value.int .i64 0, .slice none 0 0, .slice none 0 0, .string ⟨#[]⟩] 126)
      have HRV := mkH (HRV.out.bel hal)
      have HXV := mkH (HXV.out.below hal)
      have HTV := mkH (tb_bel HTV.out hal)
      have HFV := mkH (HFV.out.trans (Fr.ofBelow (F := fun k => k = Mb) hal) (fun k hk => .inl hk))
      have HGO := mkH (HGO.out.below hal)
      have hRC : R < V.heap.size := hRl
      have hKC : Kb < V.heap.size := hKl
      obtain ⟨C, hC⟩ : ∃ C, V.heap.size = C := ⟨_, rfl⟩
      have hwC : w.heap.size < C := by omega
      go_simp
      refine hK.out _ _ ?_ (fun hHeld => ?_)
      · exact ⟨hHeld.1.bel hal, hHeld.2.bel hal⟩
      clear hK K
      try simp only [Act.put, List.setIfInBounds_toArray, List.set_cons_zero, List.set_cons_succ]
      rw [hC] at HCV hRC hKC
      clear hC
      generalize hVa : V.alloc (.cells #[Value.int .i64 0, .slice none 0 0, .slice none 0 0, .string ⟨#[]⟩] 126) = V at *
      clear hVa hal
      have hRl : R < V.heap.size := HRV.out.lt
      have hKl : Kb < V.heap.size := hHeld.2.lt
      have hwV : w.heap.size ≤ V.heap.size := HFV.out.size
      refine wpAnyH_ready (rs := [19]) (by kernel_rfl) (by simp) ?_
      refine (AllReadyH.cons (o := { dst := none, op := _, type := _, pos := _, after := _, guard := _ }) rfl (fun K hK => ?_) AllReadyH.nil)
      refine step_st (by rfl) 126 (.tmp 8) (.tmp 51) (by rfl) C (gC (sendG g1 c.time c.queue (S c.body) T) ka2 kc2 ma2 mc2) #[Value.int .i64 0, .slice none 0 0, .slice none 0 0, .string ⟨#[]⟩] 126 (by rfl) (by rfl) HCV.out hig (by rfl) (gC_one _ _ _ _ _) ?_
      refine hK.out _ _ ?_ (fun hHeld => ?_)
      · exact ⟨hHeld.1.rowOther (g := C) (by omega) _, hHeld.2.rowOther (g := C) (by omega) _⟩
      clear hK K
      try simp only [Act.put, List.setIfInBounds_toArray, List.set_cons_zero, List.set_cons_succ]
      refine wpAnyH_take (i := 20) (oi := { dst := some 9, op := _, type := _, pos := _, after := _, guard := _ }) (v := ?_) rfl (by kernel_rfl) (by kernel_rfl) (by kernel_rfl) (fun _ _ _ h => h) (Or.inl ⟨by rfl, ?_⟩) (by assumption) ?_
      rotate_left
      · (intro W hSw; (try dsimp only at hSw); go_simp; try (with_reducible rfl))
      try simp only [Act.put, List.setIfInBounds_toArray, List.set_cons_zero, List.set_cons_succ]
      refine wpAnyH_take (i := 21) (oi := { dst := some 10, op := _, type := _, pos := _, after := _, guard := _ }) (v := ?_) rfl (by kernel_rfl) (by kernel_rfl) (by kernel_rfl) (fun _ _ _ h => h) (Or.inl ⟨by rfl, ?_⟩) (by assumption) ?_
      rotate_left
      · (intro W hSw; (try dsimp only at hSw); go_simp; try (with_reducible rfl))
      try simp only [Act.put, List.setIfInBounds_toArray, List.set_cons_zero, List.set_cons_succ]
      refine wpAnyH_done (by kernel_rfl) ?_ _
      have hfC : Fr (fun k => k = C) V (V.setRow C (gC (sendG g1 c.time c.queue (S c.body) T) ka2 kc2 ma2 mc2)) := Bx.frrow _
      have HXE := mkH (HXV.out.other hfC HCV.out (by decide) (by decide) (by decide) (by decide) (by decide))
      have HCE := mkH (HCV.out.row (cs := (gC (sendG g1 c.time c.queue (S c.body) T) ka2 kc2 ma2 mc2)))
      have HRE := mkH (HRV.out.rowOther (g := C) (by omega) (gC (sendG g1 c.time c.queue (S c.body) T) ka2 kc2 ma2 mc2))
      have HKE := mkH hHeld.2
      have HFE := mkH (HFV.out.trans hfC (fun k hk => .inr (by omega)))
      have HGE := mkH (own_gbx HGO.out hfC HCV.out (by decide) (by decide))
      clear hHeld HXV HRV HCV HTV HFV HGO hfC
      generalize V.setRow C (gC (sendG g1 c.time c.queue (S c.body) T) ka2 kc2 ma2 mc2) = V5 at *
      by_cases hz : se = 0
      · subst hz
        obtain ⟨W7, hrun, hM7, hF7⟩ := store1 (HXE.out.below (below_drew V5)).m (len_xs2 HXS.out HLN2.out) ⟨⟨c.queue, S c.group, (sendG g1 c.time c.queue (S c.body) T)⟩, ka2, kc2, ma2, mc2⟩ HWF.out
        go_upto_region 11 with fail
        refine Rg.region_G hmx 6 (fun W => W = V5.drew) rfl (fun hHeld => ?_)
        refine Rg.anyG_pure (i := 0) (oi := { dst := some 58, op := _, type := _, pos := _, after := _, guard := _ }) (v := ?_) rfl (by kernel_rfl) (by kernel_rfl) (by kernel_rfl) (by rfl) (fun _ _ _ h => h) (Or.inl ⟨by rfl, ?_⟩) (fun _ => by assumption) ?_
        rotate_left
        · (intro W hSw; (try dsimp only at hSw); go_simp; try (with_reducible rfl))
        try simp only [Act.put, List.setIfInBounds_toArray, List.set_cons_zero, List.set_cons_succ]
        refine Rg.anyG_pure (i := 1) (oi := { dst := some 59, op := _, type := _, pos := _, after := _, guard := _ }) (v := ?_) rfl (by kernel_rfl) (by kernel_rfl) (by kernel_rfl) (by rfl) (fun _ _ _ h => h) (Or.inl ⟨by rfl, ?_⟩) (fun _ => by assumption) ?_
        rotate_left
        · (intro W hSw; (try dsimp only at hSw); go_simp; try (with_reducible rfl))
        try simp only [Act.put, List.setIfInBounds_toArray, List.set_cons_zero, List.set_cons_succ]
        refine Rg.anyG_pure (i := 2) (oi := { dst := some 60, op := _, type := _, pos := _, after := _, guard := _ }) (v := ?_) rfl (by kernel_rfl) (by kernel_rfl) (by kernel_rfl) (by rfl) (fun _ _ _ h => h) (Or.inl ⟨by rfl, ?_⟩) (fun _ => by assumption) ?_
        rotate_left
        · (intro W hSw; (try dsimp only at hSw); go_simp; try (with_reducible rfl))
        try simp only [Act.put, List.setIfInBounds_toArray, List.set_cons_zero, List.set_cons_succ]
        refine Rg.anyG_take (i := 3) (oi := { dst := some 61, op := _, type := _, pos := _, after := _, guard := _ }) (v := ?_) rfl (by kernel_rfl) (by kernel_rfl) (by kernel_rfl) [6] (by kernel_rfl) (fun _ _ _ h => h) (Or.inl ⟨by rfl, ?_⟩) (by assumption) ?_
        rotate_left
        · (intro W hSw; (try dsimp only at hSw); subst hSw; have c2 := (HXE.out.below (below_drew V5)).bx.cell 2 _ rfl; go_simp; try (with_reducible rfl))
        try simp only [Act.put, List.setIfInBounds_toArray, List.set_cons_zero, List.set_cons_succ]
        refine Rg.anyG_take (i := 4) (oi := { dst := some 62, op := _, type := _, pos := _, after := _, guard := _ }) (v := ?_) rfl (by kernel_rfl) (by kernel_rfl) (by kernel_rfl) [6] (by kernel_rfl) (fun _ _ _ h => h) (Or.inl ⟨by rfl, ?_⟩) (by assumption) ?_
        rotate_left
        · (intro W hSw; (try dsimp only at hSw); subst hSw; have b6 := HKE.out.bel (below_drew V5); have c0 := b6.cell 0 _ rfl; have c1 := b6.cell 1 _ rfl; go_simp; try (with_reducible rfl))
        try simp only [Act.put, List.setIfInBounds_toArray, List.set_cons_zero, List.set_cons_succ]
        refine Rg.anyG_take (i := 5) (oi := { dst := some 63, op := _, type := _, pos := _, after := _, guard := _ }) (v := .agg (gC (sendG g1 c.time c.queue (S c.body) T) ka2 kc2 ma2 mc2)) rfl (by kernel_rfl) (by kernel_rfl) (by kernel_rfl) [6] (by kernel_rfl) (fun _ _ _ h => h) (Or.inl ⟨by rfl, ?_⟩) (by assumption) ?_
        · (intro W hSw; (try dsimp only at hSw); subst hSw; exact run_ld (by rfl) (by rfl) (loadG (HCE.out.bel (below_drew V5))))
        try simp only [Act.put, List.setIfInBounds_toArray, List.set_cons_zero, List.set_cons_succ]
        refine Rg.anyG_ready (rs := [6]) (by kernel_rfl) (by simp) ?_
        refine Rg.AllG.last (o := { dst := none, op := _, type := _, pos := _, after := _, guard := _ }) rfl (by kernel_rfl) (fun K hK => ?_)
        refine step_mapup (by rfl) 159 (.tmp 61) (.tmp 62) (.tmp 63) (by rfl) (.map (some Mb)) (kv c.queue (S c.group)) (.agg (gC (sendG g1 c.time c.queue (S c.body) T) ka2 kc2 ma2 mc2)) (by rfl) (by rfl) (by rfl) (W' := W7) hrun ?_
        refine hK.out _ _ ?_
        clear hK K
        try simp only [Act.put, List.setIfInBounds_toArray, List.set_cons_zero, List.set_cons_succ]
        refine Rg.anyG_done (by kernel_rfl) ?_ _
        have hX6 := HXE.out.below (below_drew V5)
        have hbare := hX6.m.bare
        have hR6 := HRE.out.bel (below_drew V5)
        have HR7 := mkH (hR6.fr hF7 (hbare ⟨R, 0, none⟩ _ (hR6.cell 0 _ rfl)))
        have HG7 := mkH (own_gmap (HGE.out.below (below_drew V5)) hF7 hX6.m)
        have HX7 := mkH (hX6.step hF7 hM7 (Gy.own HG7.out) (ok_snd HOK1.out HTM.out hqS HNX.out (S c.body) T) HQB.out)
        have HF7 : Hid (Fr (fun k => k = Mb) w W7) := mkH ((HFE.out.trans (Fr.ofBelow (F := fun k => k = Mb) (below_drew V5)) (fun k hk => .inl hk)).trans hF7 (fun k hk => .inl hk))
        clear hrun hM7 hF7 hX6 hbare hR6 HG7 HGE HCE HRE HKE
        go_wp2_with (refine wpList_st rfl (ty := 46) (x := .tmp 6) (y := .tmp 65) (b := R) (cs := Pv (rpS sn) none 0 none 0 none 0) (old := #[Value.int .i64 0, .int .i64 0, .int .i64 0, .slice none 0 0, .slice none 0 0, .slice none 0 0]) (t := 46) rfl rfl rfl HR7.out Wa.infoP rfl (Wa.Pv_one _ _ _ _ _ _ _) ?_)
        have hR8 := HR7.out.row (cs := Pv (rpS sn) none 0 none 0 none 0)
        have hF8 : Fr (fun k => k = R) W7 (W7.setRow R (Pv (rpS sn) none 0 none 0 none 0)) := Bx.frrow _
        refine bodyPost_ret (res_c rfl _ _ _ rfl (Wa.load_pv hR8)) rfl ⟨_, ?_, ?_, HX7.out.other hF8 HR7.out (by decide) (by decide) (by decide) (by decide) (by decide), HF7.out.trans hF8 (fun k hk => .inr (by omega))⟩
        · rw [HE.out.1, if_pos trivial]
        · rw [HE.out.2, if_pos trivial, put_p, HXS.out]
      · go_wp2_with (first
          | (go_at_call 221; refine (refusal_any V5 se).mono ?_; rintro e2 w2 ⟨rfl, hb2⟩; have HR2 := mkH (HRE.out.bel hb2); have HX2 := mkH (HXE.out.below hb2); have HF2 := mkH (HFE.out.trans (Fr.ofBelow (F := fun k => k = Mb) hb2) (fun k hk => .inl hk)); clear hb2)
          | (refine wpList_st rfl (ty := 46) (x := .tmp 6) (y := .tmp 57) (b := R) (cs := Pv (rpE se) none 0 none 0 none 0) (old := #[Value.int .i64 0, .int .i64 0, .int .i64 0, .slice none 0 0, .slice none 0 0, .slice none 0 0]) (t := 46) rfl rfl rfl HR2.out Wa.infoP rfl (Wa.Pv_one _ _ _ _ _ _ _) ?_))
        have hR3 := HR2.out.row (cs := Pv (rpE se) none 0 none 0 none 0)
        have hF8 : Fr (fun k => k = R) w2 (w2.setRow R (Pv (rpE se) none 0 none 0 none 0)) := Bx.frrow _
        refine bodyPost_ret (res_c rfl _ _ _ rfl (Wa.load_pv hR3)) rfl ⟨xs2, ?_, ?_, HX2.out.other hF8 HR2.out (by decide) (by decide) (by decide) (by decide) (by decide), HF2.out.trans hF8 (fun k hk => .inr (by omega))⟩
        · rw [HE.out.1, if_neg hz]
        · rw [HE.out.2, if_neg hz, HXS.out]
    · have hal : Below V.heap.size V (V.alloc (.cells #[Value.int .i64 0, .slice none 0 0, .slice none 0 0, .string ⟨#[]⟩] 126)) := (Below.refl _ _).alloc (Nat.le_refl _) _
      have HCV := mkH (Bx.new V #[Value.int .i64 0, .slice none 0 0, .slice none 0 0, .string ⟨#[]⟩] 126)
      have HRV := mkH (HRV.out.bel hal)
      have HXV := mkH (HXV.out.below hal)
      have HTV := mkH (tb_bel HTV.out hal)
      have HFV := mkH (HFV.out.trans (Fr.ofBelow (F := fun k => k = Mb) hal) (fun k hk => .inl hk))
      have HGL := mkH (HGL.out.below hal)
      have hRC : R < V.heap.size := hRl
      have hKC : Kb < V.heap.size := hKl
      obtain ⟨C, hC⟩ : ∃ C, V.heap.size = C := ⟨_, rfl⟩
      have hwC : w.heap.size < C := by omega
      go_simp
      refine hK.out _ _ ?_ (fun hHeld => ?_)
      · exact ⟨hHeld.1.bel hal, hHeld.2.bel hal⟩
      clear hK K
      try simp only [Act.put, List.setIfInBounds_toArray, List.set_cons_zero, List.set_cons_succ]
      rw [hC] at HCV hRC hKC
      clear hC
      generalize hVa : V.alloc (.cells #[Value.int .i64 0, .slice none 0 0, .slice none 0 0, .string ⟨#[]⟩] 126) = V at *
      clear hVa hal
      have hRl : R < V.heap.size := HRV.out.lt
      have hKl : Kb < V.heap.size := hHeld.2.lt
      have hwV : w.heap.size ≤ V.heap.size := HFV.out.size
      refine wpAnyH_ready (rs := [13]) (by kernel_rfl) (by simp) ?_
      refine (AllReadyH.cons (o := { dst := some 50, op := _, type := _, pos := _, after := _, guard := _ }) rfl (fun K hK => ?_) AllReadyH.nil)
      go_simp
      refine (Send_any _ g1 ka kc ma mc HGL.out (by have := HOK1.out.2.1; omega) (by have := HOK1.out.2.2; omega) HOK1.out.1.1 c.time c.queue (S c.body) (S c.token) HTV.out hbody).mono ?_
      rintro e2 V ⟨ka2, kc2, ma2, mc2, rfl, hgo, hbl⟩
      rw [HTK.out] at hgo ⊢
      rw [HSE.out, HSN.out]
      have HRV := mkH (HRV.out.bel hbl)
      have HCV := mkH (HCV.out.bel hbl)
      have HXV := mkH (HXV.out.below hbl)
      have HTV := mkH (tb_bel HTV.out hbl)
      have HFV := mkH (HFV.out.trans (Fr.ofBelow (F := fun k => k = Mb) hbl) (fun k hk => .inl hk))
      have HGO : Hid (Go' w.heap.size V (sendG g1 c.time c.queue (S c.body) T) ka2 kc2 ma2 mc2) := mkH (hgo.mono hwV)
      have hRl : R < V.heap.size := HRV.out.lt
      have hKl : Kb < V.heap.size := (hHeld.2.bel hbl).lt
      have hwV : w.heap.size ≤ V.heap.size := HFV.out.size
      clear hgo
      go_wp2_with fail
      refine hK.out _ _ ?_ (fun hHeld => ?_)
      · exact ⟨hHeld.1.bel hbl, hHeld.2.bel hbl⟩
      clear hK K
      try simp only [Act.put, List.setIfInBounds_toArray, List.set_cons_zero, List.set_cons_succ]
      clear hbl
      refine wpAnyH_take (i := 14) (oi := { dst := some 36, op := _, type := _, pos := _, after := _, guard := _ }) (v := ?_) rfl (by kernel_rfl) (by kernel_rfl) (by kernel_rfl) (fun _ _ _ h => h) (Or.inl ⟨by rfl, ?_⟩) (by assumption) ?_
      rotate_left
      · (intro W hSw; (try dsimp only at hSw); go_simp; try (with_reducible rfl))
      try simp only [Act.put, List.setIfInBounds_toArray, List.set_cons_zero, List.set_cons_succ]
      refine wpAnyH_take (i := 15) (oi := { dst := some 51, op := _, type := _, pos := _, after := _, guard := _ }) (v := ?_) rfl (by kernel_rfl) (by kernel_rfl) (by kernel_rfl) (fun _ _ _ h => h) (Or.inl ⟨by rfl, ?_⟩) (by assumption) ?_
      rotate_left
      · (intro W hSw; (try dsimp only at hSw); go_simp; try (with_reducible rfl))
      try simp only [Act.put, List.setIfInBounds_toArray, List.set_cons_zero, List.set_cons_succ]
      refine wpAnyH_take (i := 16) (oi := { dst := some 52, op := _, type := _, pos := _, after := _, guard := _ }) (v := ?_) rfl (by kernel_rfl) (by kernel_rfl) (by kernel_rfl) (fun _ _ _ h => h) (Or.inl ⟨by rfl, ?_⟩) (by assumption) ?_
      rotate_left
      · (intro W hSw; (try dsimp only at hSw); go_simp; try (with_reducible rfl))
      try simp only [Act.put, List.setIfInBounds_toArray, List.set_cons_zero, List.set_cons_succ]
      refine wpAnyH_take (i := 17) (oi := { dst := some 53, op := _, type := _, pos := _, after := _, guard := _ }) (v := ?_) rfl (by kernel_rfl) (by kernel_rfl) (by kernel_rfl) (fun _ _ _ h => h) (Or.inl ⟨by rfl, ?_⟩) (by assumption) ?_
      rotate_left
      · (intro W hSw; (try dsimp only at hSw); go_simp; try (with_reducible rfl))
      try simp only [Act.put, List.setIfInBounds_toArray, List.set_cons_zero, List.set_cons_succ]
      refine wpAnyH_ready (rs := [19]) (by kernel_rfl) (by simp) ?_
      refine (AllReadyH.cons (o := { dst := none, op := _, type := _, pos := _, after := _, guard := _ }) rfl (fun K hK => ?_) AllReadyH.nil)
      refine step_st (by rfl) 126 (.tmp 8) (.tmp 51) (by rfl) C (gC (sendG g1 c.time c.queue (S c.body) T) ka2 kc2 ma2 mc2) #[Value.int .i64 0, .slice none 0 0, .slice none 0 0, .string ⟨#[]⟩] 126 (by rfl) (by rfl) HCV.out hig (by rfl) (gC_one _ _ _ _ _) ?_
      refine hK.out _ _ ?_ (fun hHeld => ?_)
      · exact ⟨hHeld.1.rowOther (g := C) (by omega) _, hHeld.2.rowOther (g := C) (by omega) _⟩
      clear hK K
      try simp only [Act.put, List.setIfInBounds_toArray, List.set_cons_zero, List.set_cons_succ]
      refine wpAnyH_take (i := 20) (oi := { dst := some 9, op := _, type := _, pos := _, after := _, guard := _ }) (v := ?_) rfl (by kernel_rfl) (by kernel_rfl) (by kernel_rfl) (fun _ _ _ h => h) (Or.inl ⟨by rfl, ?_⟩) (by assumption) ?_
      rotate_left
      · (intro W hSw; (try dsimp only at hSw); go_simp; try (with_reducible rfl))
      try simp only [Act.put, List.setIfInBounds_toArray, List.set_cons_zero, List.set_cons_succ]
      refine wpAnyH_take (i := 21) (oi := { dst := some 10, op := _, type := _, pos := _, after := _, guard := _ }) (v := ?_) rfl (by kernel_rfl) (by kernel_rfl) (by kernel_rfl) (fun _ _ _ h => h) (Or.inl ⟨by rfl, ?_⟩) (by assumption) ?_
      rotate_left
      · (intro W hSw; (try dsimp only at hSw); go_simp; try (with_reducible rfl))
      try simp only [Act.put, List.setIfInBounds_toArray, List.set_cons_zero, List.set_cons_succ]
      refine wpAnyH_done (by kernel_rfl) ?_ _
      have hfC : Fr (fun k => k = C) V (V.setRow C (gC (sendG g1 c.time c.queue (S c.body) T) ka2 kc2 ma2 mc2)) := Bx.frrow _
      have HXE := mkH (HXV.out.other hfC HCV.out (by decide) (by decide) (by decide) (by decide) (by decide))
      have HCE := mkH (HCV.out.row (cs := (gC (sendG g1 c.time c.queue (S c.body) T) ka2 kc2 ma2 mc2)))
      have HRE := mkH (HRV.out.rowOther (g := C) (by omega) (gC (sendG g1 c.time c.queue (S c.body) T) ka2 kc2 ma2 mc2))
      have HKE := mkH hHeld.2
      have HFE := mkH (HFV.out.trans hfC (fun k hk => .inr (by omega)))
      have HGE := mkH (own_gbx HGO.out hfC HCV.out (by decide) (by decide))
      clear hHeld HXV HRV HCV HTV HFV HGO hfC
      generalize V.setRow C (gC (sendG g1 c.time c.queue (S c.body) T) ka2 kc2 ma2 mc2) = V5 at *
      by_cases hz : se = 0
      · subst hz
        obtain ⟨W7, hrun, hM7, hF7⟩ := store1 (HXE.out.below (below_drew V5)).m (len_xs2 HXS.out HLN2.out) ⟨⟨c.queue, S c.group, (sendG g1 c.time c.queue (S c.body) T)⟩, ka2, kc2, ma2, mc2⟩ HWF.out
        go_upto_region 11 with fail
        refine Rg.region_G hmx 6 (fun W => W = V5.drew) rfl (fun hHeld => ?_)
        refine Rg.anyG_pure (i := 0) (oi := { dst := some 58, op := _, type := _, pos := _, after := _, guard := _ }) (v := ?_) rfl (by kernel_rfl) (by kernel_rfl) (by kernel_rfl) (by rfl) (fun _ _ _ h => h) (Or.inl ⟨by rfl, ?_⟩) (fun _ => by assumption) ?_
        rotate_left
        · (intro W hSw; (try dsimp only at hSw); go_simp; try (with_reducible rfl))
        try simp only [Act.put, List.setIfInBounds_toArray, List.set_cons_zero, List.set_cons_succ]
        refine Rg.anyG_pure (i := 1) (oi := { dst := some 59, op := _, type := _, pos := _, after := _, guard := _ }) (v := ?_) rfl (by kernel_rfl) (by kernel_rfl) (by kernel_rfl) (by rfl) (fun _ _ _ h => h) (Or.inl ⟨by rfl, ?_⟩) (fun _ => by assumption) ?_
        rotate_left
        · (intro W hSw; (try dsimp only at hSw); go_simp; try (with_reducible rfl))
        try simp only [Act.put, List.setIfInBounds_toArray, List.set_cons_zero, List.set_cons_succ]
        refine Rg.anyG_pure (i := 2) (oi := { dst := some 60, op := _, type := _, pos := _, after := _, guard := _ }) (v := ?_) rfl (by kernel_rfl) (by kernel_rfl) (by kernel_rfl) (by rfl) (fun _ _ _ h => h) (Or.inl ⟨by rfl, ?_⟩) (fun _ => by assumption) ?_
        rotate_left
        · (intro W hSw; (try dsimp only at hSw); go_simp; try (with_reducible rfl))
        try simp only [Act.put, List.setIfInBounds_toArray, List.set_cons_zero, List.set_cons_succ]
        refine Rg.anyG_take (i := 3) (oi := { dst := some 61, op := _, type := _, pos := _, after := _, guard := _ }) (v := ?_) rfl (by kernel_rfl) (by kernel_rfl) (by kernel_rfl) [6] (by kernel_rfl) (fun _ _ _ h => h) (Or.inl ⟨by rfl, ?_⟩) (by assumption) ?_
        rotate_left
        · (intro W hSw; (try dsimp only at hSw); subst hSw; have c2 := (HXE.out.below (below_drew V5)).bx.cell 2 _ rfl; go_simp; try (with_reducible rfl))
        try simp only [Act.put, List.setIfInBounds_toArray, List.set_cons_zero, List.set_cons_succ]
        refine Rg.anyG_take (i := 4) (oi := { dst := some 62, op := _, type := _, pos := _, after := _, guard := _ }) (v := ?_) rfl (by kernel_rfl) (by kernel_rfl) (by kernel_rfl) [6] (by kernel_rfl) (fun _ _ _ h => h) (Or.inl ⟨by rfl, ?_⟩) (by assumption) ?_
        rotate_left
        · (intro W hSw; (try dsimp only at hSw); subst hSw; have b6 := HKE.out.bel (below_drew V5); have c0 := b6.cell 0 _ rfl; have c1 := b6.cell 1 _ rfl; go_simp; try (with_reducible rfl))
        try simp only [Act.put, List.setIfInBounds_toArray, List.set_cons_zero, List.set_cons_succ]
        refine Rg.anyG_take (i := 5) (oi := { dst := some 63, op := _, type := _, pos := _, after := _, guard := _ }) (v := .agg (gC (sendG g1 c.time c.queue (S c.body) T) ka2 kc2 ma2 mc2)) rfl (by kernel_rfl) (by kernel_rfl) (by kernel_rfl) [6] (by kernel_rfl) (fun _ _ _ h => h) (Or.inl ⟨by rfl, ?_⟩) (by assumption) ?_
        · (intro W hSw; (try dsimp only at hSw); subst hSw; exact run_ld (by rfl) (by rfl) (loadG (HCE.out.bel (below_drew V5))))
        try simp only [Act.put, List.setIfInBounds_toArray, List.set_cons_zero, List.set_cons_succ]
        refine Rg.anyG_ready (rs := [6]) (by kernel_rfl) (by simp) ?_
        refine Rg.AllG.last (o := { dst := none, op := _, type := _, pos := _, after := _, guard := _ }) rfl (by kernel_rfl) (fun K hK => ?_)
        refine step_mapup (by rfl) 159 (.tmp 61) (.tmp 62) (.tmp 63) (by rfl) (.map (some Mb)) (kv c.queue (S c.group)) (.agg (gC (sendG g1 c.time c.queue (S c.body) T) ka2 kc2 ma2 mc2)) (by rfl) (by rfl) (by rfl) (W' := W7) hrun ?_
        refine hK.out _ _ ?_
        clear hK K
        try simp only [Act.put, List.setIfInBounds_toArray, List.set_cons_zero, List.set_cons_succ]
        refine Rg.anyG_done (by kernel_rfl) ?_ _
        have hX6 := HXE.out.below (below_drew V5)
        have hbare := hX6.m.bare
        have hR6 := HRE.out.bel (below_drew V5)
        have HR7 := mkH (hR6.fr hF7 (hbare ⟨R, 0, none⟩ _ (hR6.cell 0 _ rfl)))
        have HG7 := mkH (own_gmap (HGE.out.below (below_drew V5)) hF7 hX6.m)
        have HX7 := mkH (hX6.step hF7 hM7 (Gy.own HG7.out) (ok_snd HOK1.out HTM.out hqS HNX.out (S c.body) T) HQB.out)
        have HF7 : Hid (Fr (fun k => k = Mb) w W7) := mkH ((HFE.out.trans (Fr.ofBelow (F := fun k => k = Mb) (below_drew V5)) (fun k hk => .inl hk)).trans hF7 (fun k hk => .inl hk))
        clear hrun hM7 hF7 hX6 hbare hR6 HG7 HGE HCE HRE HKE
        go_wp2_with (refine wpList_st rfl (ty := 46) (x := .tmp 6) (y := .tmp 65) (b := R) (cs := Pv (rpS sn) none 0 none 0 none 0) (old := #[Value.int .i64 0, .int .i64 0, .int .i64 0, .slice none 0 0, .slice none 0 0, .slice none 0 0]) (t := 46) rfl rfl rfl HR7.out Wa.infoP rfl (Wa.Pv_one _ _ _ _ _ _ _) ?_)
        have hR8 := HR7.out.row (cs := Pv (rpS sn) none 0 none 0 none 0)
        have hF8 : Fr (fun k => k = R) W7 (W7.setRow R (Pv (rpS sn) none 0 none 0 none 0)) := Bx.frrow _
        refine bodyPost_ret (res_c rfl _ _ _ rfl (Wa.load_pv hR8)) rfl ⟨_, ?_, ?_, HX7.out.other hF8 HR7.out (by decide) (by decide) (by decide) (by decide) (by decide), HF7.out.trans hF8 (fun k hk => .inr (by omega))⟩
        · rw [HE.out.1, if_pos trivial]
        · rw [HE.out.2, if_pos trivial, put_p, HXS.out]
      · go_wp2_with (first
          | (go_at_call 221; refine (refusal_any V5 se).mono ?_; rintro e2 w2 ⟨rfl, hb2⟩; have HR2 := mkH (HRE.out.bel hb2); have HX2 := mkH (HXE.out.below hb2); have HF2 := mkH (HFE.out.trans (Fr.ofBelow (F := fun k => k = Mb) hb2) (fun k hk => .inl hk)); clear hb2)
          | (refine wpList_st rfl (ty := 46) (x := .tmp 6) (y := .tmp 57) (b := R) (cs := Pv (rpE se) none 0 none 0 none 0) (old := #[Value.int .i64 0, .int .i64 0, .int .i64 0, .slice none 0 0, .slice none 0 0, .slice none 0 0]) (t := 46) rfl rfl rfl HR2.out Wa.infoP rfl (Wa.Pv_one _ _ _ _ _ _ _) ?_))
        have hR3 := HR2.out.row (cs := Pv (rpE se) none 0 none 0 none 0)
        have hF8 : Fr (fun k => k = R) w2 (w2.setRow R (Pv (rpE se) none 0 none 0 none 0)) := Bx.frrow _
        refine bodyPost_ret (res_c rfl _ _ _ rfl (Wa.load_pv hR3)) rfl ⟨xs2, ?_, ?_, HX2.out.other hF8 HR2.out (by decide) (by decide) (by decide) (by decide) (by decide), HF2.out.trans hF8 (fun k hk => .inr (by omega))⟩
        · rw [HE.out.1, if_neg hz]
        · rw [HE.out.2, if_neg hz, HXS.out]
  · have hal : Below V.heap.size V (V.alloc (.cells #[Value.int .i64 0, .slice none 0 0, .slice none 0 0, .string ⟨#[]⟩] 126)) := (Below.refl _ _).alloc (Nat.le_refl _) _
    have HCV := mkH (Bx.new V #[Value.int .i64 0, .slice none 0 0, .slice none 0 0, .string ⟨#[]⟩] 126)
    have HRV := mkH (HRV.out.bel hal)
    have HXV := mkH (HXV.out.below hal)
    have HTV := mkH (tb_bel HTV.out hal)
    have HFV := mkH (HFV.out.trans (Fr.ofBelow (F := fun k => k = Mb) hal) (fun k hk => .inl hk))
    have hRC : R < V.heap.size := hRl
    have hKC : Kb < V.heap.size := hKl
    obtain ⟨C, hC⟩ : ∃ C, V.heap.size = C := ⟨_, rfl⟩
    have hwC : w.heap.size < C := by omega
    go_simp
    refine hK.out _ _ ?_ (fun hHeld => ?_)
    · exact ⟨hHeld.1.bel hal, hHeld.2.bel hal⟩
    clear hK K
    try simp only [Act.put, List.setIfInBounds_toArray, List.set_cons_zero, List.set_cons_succ]
    rw [hC] at HCV hRC hKC
    clear hC
    generalize hVa : V.alloc (.cells #[Value.int .i64 0, .slice none 0 0, .slice none 0 0, .string ⟨#[]⟩] 126) = V at *
    clear hVa hal
    have hRl : R < V.heap.size := HRV.out.lt
    have hKl : Kb < V.heap.size := hHeld.2.lt
    have hwV : w.heap.size ≤ V.heap.size := HFV.out.size
    refine wpAnyH_ready (rs := [4]) (by kernel_rfl) (by simp) ?_
    refine (AllReadyH.cons (o := { dst := some 41, op := _, type := _, pos := _, after := _, guard := _ }) rfl (fun K hK => ?_) AllReadyH.nil)
    go_simp
    refine (look_any HXV.out HWF.out c.time HTM.out HLN.out).mono ?_
    rintro e1 V ⟨ka, kc, ma, mc, xs2, rfl, hgl, hxs2, hex, hfr⟩
    rw [HG1.out.1] at hgl ⊢
    have hbare := HXV.out.m.bare
    have HRV := mkH (HRV.out.fr hfr (hbare ⟨R, 0, none⟩ _ (HRV.out.cell 0 _ rfl)))
    have HCV := mkH (HCV.out.fr hfr (hbare ⟨C, 0, none⟩ _ (HCV.out.cell 0 _ rfl)))
    have HTV := mkH (tb_map HTV.out hfr hbare)
    have HFV := mkH (HFV.out.trans hfr (fun k hk => .inl hk))
    have hk1 := hbare ⟨w.heap.size, 0, none⟩ _ (hHeld.1.cell 0 _ rfl)
    have hk2 := hbare ⟨Kb, 0, none⟩ _ (hHeld.2.cell 0 _ rfl)
    have HXV := mkH hex
    have HGL := mkH hgl
    have HXS := mkH hxs2
    have hwV : w.heap.size ≤ V.heap.size := HFV.out.size
    clear hex hgl hxs2 hbare
    go_wp2_with fail
    refine hK.out _ _ ?_ (fun hHeld => ?_)
    · exact ⟨hHeld.1.fr hfr hk1, hHeld.2.fr hfr hk2⟩
    clear hK K
    try simp only [Act.put, List.setIfInBounds_toArray, List.set_cons_zero, List.set_cons_succ]
    clear hfr hk1 hk2
    have hRl : R < V.heap.size := HRV.out.lt
    have hKl : Kb < V.heap.size := hHeld.2.lt
    refine wpAnyH_ready (rs := [13]) (by kernel_rfl) (by simp) ?_
    refine (AllReadyH.cons (o := { dst := some 50, op := _, type := _, pos := _, after := _, guard := _ }) rfl (fun K hK => ?_) AllReadyH.nil)
    go_simp
    refine (Send_any _ g1 ka kc ma mc HGL.out (by have := HOK1.out.2.1; omega) (by have := HOK1.out.2.2; omega) HOK1.out.1.1 c.time c.queue (S c.body) (S c.token) HTV.out hbody).mono ?_
    rintro e2 V ⟨ka2, kc2, ma2, mc2, rfl, hgo, hbl⟩
    rw [HTK.out] at hgo ⊢
    rw [HSE.out, HSN.out]
    have HRV := mkH (HRV.out.bel hbl)
    have HCV := mkH (HCV.out.bel hbl)
    have HXV := mkH (HXV.out.below hbl)
    have HTV := mkH (tb_bel HTV.out hbl)
    have HFV := mkH (HFV.out.trans (Fr.ofBelow (F := fun k => k = Mb) hbl) (fun k hk => .inl hk))
    have HGO : Hid (Go' w.heap.size V (sendG g1 c.time c.queue (S c.body) T) ka2 kc2 ma2 mc2) := mkH (hgo.mono hwV)
    have hRl : R < V.heap.size := HRV.out.lt
    have hKl : Kb < V.heap.size := (hHeld.2.bel hbl).lt
    have hwV : w.heap.size ≤ V.heap.size := HFV.out.size
    clear hgo
    go_wp2_with fail
    refine hK.out _ _ ?_ (fun hHeld => ?_)
    · exact ⟨hHeld.1.bel hbl, hHeld.2.bel hbl⟩
    clear hK K
    try simp only [Act.put, List.setIfInBounds_toArray, List.set_cons_zero, List.set_cons_succ]
    clear hbl
    refine wpAnyH_take (i := 14) (oi := { dst := some 36, op := _, type := _, pos := _, after := _, guard := _ }) (v := ?_) rfl (by kernel_rfl) (by kernel_rfl) (by kernel_rfl) (fun _ _ _ h => h) (Or.inl ⟨by rfl, ?_⟩) (by assumption) ?_
    rotate_left
    · (intro W hSw; (try dsimp only at hSw); go_simp; try (with_reducible rfl))
    try simp only [Act.put, List.setIfInBounds_toArray, List.set_cons_zero, List.set_cons_succ]
    refine wpAnyH_take (i := 15) (oi := { dst := some 51, op := _, type := _, pos := _, after := _, guard := _ }) (v := ?_) rfl (by kernel_rfl) (by kernel_rfl) (by kernel_rfl) (fun _ _ _ h => h) (Or.inl ⟨by rfl, ?_⟩) (by assumption) ?_
    rotate_left
    · (intro W hSw; (try dsimp only at hSw); go_simp; try (with_reducible rfl))
    try simp only [Act.put, List.setIfInBounds_toArray, List.set_cons_zero, List.set_cons_succ]
    refine wpAnyH_take (i := 16) (oi := { dst := some 52, op := _, type := _, pos := _, after := _, guard := _ }) (v := ?_) rfl (by kernel_rfl) (by kernel_rfl) (by kernel_rfl) (fun _ _ _ h => h) (Or.inl ⟨by rfl, ?_⟩) (by assumption) ?_
    rotate_left
    · (intro W hSw; (try dsimp only at hSw); go_simp; try (with_reducible rfl))
    try simp only [Act.put, List.setIfInBounds_toArray, List.set_cons_zero, List.set_cons_succ]
    refine wpAnyH_take (i := 17) (oi := { dst := some 53, op := _, type := _, pos := _, after := _, guard := _ }) (v := ?_) rfl (by kernel_rfl) (by kernel_rfl) (by kernel_rfl) (fun _ _ _ h => h) (Or.inl ⟨by rfl, ?_⟩) (by assumption) ?_
    rotate_left
    · (intro W hSw; (try dsimp only at hSw); go_simp; try (with_reducible rfl))
    try simp only [Act.put, List.setIfInBounds_toArray, List.set_cons_zero, List.set_cons_succ]
    refine wpAnyH_ready (rs := [19]) (by kernel_rfl) (by simp) ?_
    refine (AllReadyH.cons (o := { dst := none, op := _, type := _, pos := _, after := _, guard := _ }) rfl (fun K hK => ?_) AllReadyH.nil)
    refine step_st (by rfl) 126 (.tmp 8) (.tmp 51) (by rfl) C (gC (sendG g1 c.time c.queue (S c.body) T) ka2 kc2 ma2 mc2) #[Value.int .i64 0, .slice none 0 0, .slice none 0 0, .string ⟨#[]⟩] 126 (by rfl) (by rfl) HCV.out hig (by rfl) (gC_one _ _ _ _ _) ?_
    refine hK.out _ _ ?_ (fun hHeld => ?_)
    · exact ⟨hHeld.1.rowOther (g := C) (by omega) _, hHeld.2.rowOther (g := C) (by omega) _⟩
    clear hK K
    try simp only [Act.put, List.setIfInBounds_toArray, List.set_cons_zero, List.set_cons_succ]
    refine wpAnyH_take (i := 20) (oi := { dst := some 9, op := _, type := _, pos := _, after := _, guard := _ }) (v := ?_) rfl (by kernel_rfl) (by kernel_rfl) (by kernel_rfl) (fun _ _ _ h => h) (Or.inl ⟨by rfl, ?_⟩) (by assumption) ?_
    rotate_left
    · (intro W hSw; (try dsimp only at hSw); go_simp; try (with_reducible rfl))
    try simp only [Act.put, List.setIfInBounds_toArray, List.set_cons_zero, List.set_cons_succ]
    refine wpAnyH_take (i := 21) (oi := { dst := some 10, op := _, type := _, pos := _, after := _, guard := _ }) (v := ?_) rfl (by kernel_rfl) (by kernel_rfl) (by kernel_rfl) (fun _ _ _ h => h) (Or.inl ⟨by rfl, ?_⟩) (by assumption) ?_
    rotate_left
    · (intro W hSw; (try dsimp only at hSw); go_simp; try (with_reducible rfl))
    try simp only [Act.put, List.setIfInBounds_toArray, List.set_cons_zero, List.set_cons_succ]
    refine wpAnyH_done (by kernel_rfl) ?_ _
    have hfC : Fr (fun k => k = C) V (V.setRow C (gC (sendG g1 c.time c.queue (S c.body) T) ka2 kc2 ma2 mc2)) := Bx.frrow _
    have HXE := mkH (HXV.out.other hfC HCV.out (by decide) (by decide) (by decide) (by decide) (by decide))
    have HCE := mkH (HCV.out.row (cs := (gC (sendG g1 c.time c.queue (S c.body) T) ka2 kc2 ma2 mc2)))
    have HRE := mkH (HRV.out.rowOther (g := C) (by omega) (gC (sendG g1 c.time c.queue (S c.body) T) ka2 kc2 ma2 mc2))
    have HKE := mkH hHeld.2
    have HFE := mkH (HFV.out.trans hfC (fun k hk => .inr (by omega)))
    have HGE := mkH (own_gbx HGO.out hfC HCV.out (by decide) (by decide))
    clear hHeld HXV HRV HCV HTV HFV HGO hfC
    generalize V.setRow C (gC (sendG g1 c.time c.queue (S c.body) T) ka2 kc2 ma2 mc2) = V5 at *
    by_cases hz : se = 0
    · subst hz
      obtain ⟨W7, hrun, hM7, hF7⟩ := store1 (HXE.out.below (below_drew V5)).m (len_xs2 HXS.out HLN2.out) ⟨⟨c.queue, S c.group, (sendG g1 c.time c.queue (S c.body) T)⟩, ka2, kc2, ma2, mc2⟩ HWF.out
      go_upto_region 11 with fail
      refine Rg.region_G hmx 6 (fun W => W = V5.drew) rfl (fun hHeld => ?_)
      refine Rg.anyG_pure (i := 0) (oi := { dst := some 58, op := _, type := _, pos := _, after := _, guard := _ }) (v := ?_) rfl (by kernel_rfl) (by kernel_rfl) (by kernel_rfl) (by rfl) (fun _ _ _ h => h) (Or.inl ⟨by rfl, ?_⟩) (fun _ => by assumption) ?_
      rotate_left
      · (intro W hSw; (try dsimp only at hSw); go_simp; try (with_reducible rfl))
      try simp only [Act.put, List.setIfInBounds_toArray, List.set_cons_zero, List.set_cons_succ]
      refine Rg.anyG_pure (i := 1) (oi := { dst := some 59, op := _, type := _, pos := _, after := _, guard := _ }) (v := ?_) rfl (by kernel_rfl) (by kernel_rfl) (by kernel_rfl) (by rfl) (fun _ _ _ h => h) (Or.inl ⟨by rfl, ?_⟩) (fun _ => by assumption) ?_
      rotate_left
      · (intro W hSw; (try dsimp only at hSw); go_simp; try (with_reducible rfl))
      try simp only [Act.put, List.setIfInBounds_toArray, List.set_cons_zero, List.set_cons_succ]
      refine Rg.anyG_pure (i := 2) (oi := { dst := some 60, op := _, type := _, pos := _, after := _, guard := _ }) (v := ?_) rfl (by kernel_rfl) (by kernel_rfl) (by kernel_rfl) (by rfl) (fun _ _ _ h => h) (Or.inl ⟨by rfl, ?_⟩) (fun _ => by assumption) ?_
      rotate_left
      · (intro W hSw; (try dsimp only at hSw); go_simp; try (with_reducible rfl))
      try simp only [Act.put, List.setIfInBounds_toArray, List.set_cons_zero, List.set_cons_succ]
      refine Rg.anyG_take (i := 3) (oi := { dst := some 61, op := _, type := _, pos := _, after := _, guard := _ }) (v := ?_) rfl (by kernel_rfl) (by kernel_rfl) (by kernel_rfl) [6] (by kernel_rfl) (fun _ _ _ h => h) (Or.inl ⟨by rfl, ?_⟩) (by assumption) ?_
      rotate_left
      · (intro W hSw; (try dsimp only at hSw); subst hSw; have c2 := (HXE.out.below (below_drew V5)).bx.cell 2 _ rfl; go_simp; try (with_reducible rfl))
      try simp only [Act.put, List.setIfInBounds_toArray, List.set_cons_zero, List.set_cons_succ]
      refine Rg.anyG_take (i := 4) (oi := { dst := some 62, op := _, type := _, pos := _, after := _, guard := _ }) (v := ?_) rfl (by kernel_rfl) (by kernel_rfl) (by kernel_rfl) [6] (by kernel_rfl) (fun _ _ _ h => h) (Or.inl ⟨by rfl, ?_⟩) (by assumption) ?_
      rotate_left
      · (intro W hSw; (try dsimp only at hSw); subst hSw; have b6 := HKE.out.bel (below_drew V5); have c0 := b6.cell 0 _ rfl; have c1 := b6.cell 1 _ rfl; go_simp; try (with_reducible rfl))
      try simp only [Act.put, List.setIfInBounds_toArray, List.set_cons_zero, List.set_cons_succ]
      refine Rg.anyG_take (i := 5) (oi := { dst := some 63, op := _, type := _, pos := _, after := _, guard := _ }) (v := .agg (gC (sendG g1 c.time c.queue (S c.body) T) ka2 kc2 ma2 mc2)) rfl (by kernel_rfl) (by kernel_rfl) (by kernel_rfl) [6] (by kernel_rfl) (fun _ _ _ h => h) (Or.inl ⟨by rfl, ?_⟩) (by assumption) ?_
      · (intro W hSw; (try dsimp only at hSw); subst hSw; exact run_ld (by rfl) (by rfl) (loadG (HCE.out.bel (below_drew V5))))
      try simp only [Act.put, List.setIfInBounds_toArray, List.set_cons_zero, List.set_cons_succ]
      refine Rg.anyG_ready (rs := [6]) (by kernel_rfl) (by simp) ?_
      refine Rg.AllG.last (o := { dst := none, op := _, type := _, pos := _, after := _, guard := _ }) rfl (by kernel_rfl) (fun K hK => ?_)
      refine step_mapup (by rfl) 159 (.tmp 61) (.tmp 62) (.tmp 63) (by rfl) (.map (some Mb)) (kv c.queue (S c.group)) (.agg (gC (sendG g1 c.time c.queue (S c.body) T) ka2 kc2 ma2 mc2)) (by rfl) (by rfl) (by rfl) (W' := W7) hrun ?_
      refine hK.out _ _ ?_
      clear hK K
      try simp only [Act.put, List.setIfInBounds_toArray, List.set_cons_zero, List.set_cons_succ]
      refine Rg.anyG_done (by kernel_rfl) ?_ _
      have hX6 := HXE.out.below (below_drew V5)
      have hbare := hX6.m.bare
      have hR6 := HRE.out.bel (below_drew V5)
      have HR7 := mkH (hR6.fr hF7 (hbare ⟨R, 0, none⟩ _ (hR6.cell 0 _ rfl)))
      have HG7 := mkH (own_gmap (HGE.out.below (below_drew V5)) hF7 hX6.m)
      have HX7 := mkH (hX6.step hF7 hM7 (Gy.own HG7.out) (ok_snd HOK1.out HTM.out hqS HNX.out (S c.body) T) HQB.out)
      have HF7 : Hid (Fr (fun k => k = Mb) w W7) := mkH ((HFE.out.trans (Fr.ofBelow (F := fun k => k = Mb) (below_drew V5)) (fun k hk => .inl hk)).trans hF7 (fun k hk => .inl hk))
      clear hrun hM7 hF7 hX6 hbare hR6 HG7 HGE HCE HRE HKE
      go_wp2_with (refine wpList_st rfl (ty := 46) (x := .tmp 6) (y := .tmp 65) (b := R) (cs := Pv (rpS sn) none 0 none 0 none 0) (old := #[Value.int .i64 0, .int .i64 0, .int .i64 0, .slice none 0 0, .slice none 0 0, .slice none 0 0]) (t := 46) rfl rfl rfl HR7.out Wa.infoP rfl (Wa.Pv_one _ _ _ _ _ _ _) ?_)
      have hR8 := HR7.out.row (cs := Pv (rpS sn) none 0 none 0 none 0)
      have hF8 : Fr (fun k => k = R) W7 (W7.setRow R (Pv (rpS sn) none 0 none 0 none 0)) := Bx.frrow _
      refine bodyPost_ret (res_c rfl _ _ _ rfl (Wa.load_pv hR8)) rfl ⟨_, ?_, ?_, HX7.out.other hF8 HR7.out (by decide) (by decide) (by decide) (by decide) (by decide), HF7.out.trans hF8 (fun k hk => .inr (by omega))⟩
      · rw [HE.out.1, if_pos trivial]
      · rw [HE.out.2, if_pos trivial, put_p, HXS.out]
    · go_wp2_with (first
        | (go_at_call 221; refine (refusal_any V5 se).mono ?_; rintro e2 w2 ⟨rfl, hb2⟩; have HR2 := mkH (HRE.out.bel hb2); have HX2 := mkH (HXE.out.below hb2); have HF2 := mkH (HFE.out.trans (Fr.ofBelow (F := fun k => k = Mb) hb2) (fun k hk => .inl hk)); clear hb2)
        | (refine wpList_st rfl (ty := 46) (x := .tmp 6) (y := .tmp 57) (b := R) (cs := Pv (rpE se) none 0 none 0 none 0) (old := #[Value.int .i64 0, .int .i64 0, .int .i64 0, .slice none 0 0, .slice none 0 0, .slice none 0 0]) (t := 46) rfl rfl rfl HR2.out Wa.infoP rfl (Wa.Pv_one _ _ _ _ _ _ _) ?_))
      have hR3 := HR2.out.row (cs := Pv (rpE se) none 0 none 0 none 0)
      have hF8 : Fr (fun k => k = R) w2 (w2.setRow R (Pv (rpE se) none 0 none 0 none 0)) := Bx.frrow _
      refine bodyPost_ret (res_c rfl _ _ _ rfl (Wa.load_pv hR3)) rfl ⟨xs2, ?_, ?_, HX2.out.other hF8 HR2.out (by decide) (by decide) (by decide) (by decide) (by decide), HF2.out.trans hF8 (fun k hk => .inr (by omega))⟩
      · rw [HE.out.1, if_neg hz]
      · rw [HE.out.2, if_neg hz, HXS.out]

theorem send_any {w : World} {Xb Mb : Nat} {cf : List Cf} {sv : List Rg} {xs : List X} {qa : Option Addr} {qc : Nat} {sa : Option Addr} {sc : Nat} (h : Ex w Xb Mb cf sv xs qa qc sa sc) (c : Cm) (d : Value) (ab : Value) (abt : Bool) (habt : ∀ W, Below w.heap.size w W → Calls Tryz.prog 266 #[.pointer (some ⟨Xb, 0, none⟩), .string (S c.group), ab] W fun e w' => e = .returned (.bool abt) ∧ Below W.heap.size W w') (hTb : Dt.Tb w) (htm : Sm c.time) (hgl : c.group.length ≤ 1000000000) (hbody : (S c.body).size ≤ 100000) (hln : xs.length ≤ 1000000) (hnx : (lookG cf (xs.map X.p) c.queue (S c.group) c.time).next + 1 ≤ 1152921504606846976) : Calls Tryz.prog 223 #[.pointer (some ⟨Xb, 0, none⟩), .agg (Cv c d), ab] w fun e w' => SdP w Xb Mb cf sv xs qa qc sa sc c abt e w' := by
  by_cases hb : 0 ≤ c.queue ∧ c.queue < (cf.length : Int)
  · by_cases hg : c.group = []
    · exact send_emp h c d ab abt hb hg
    · cases ha : abt with
      | false => exact send_mvd h c d ab false (ha ▸ habt) hb hg rfl
      | true => exact send_ok h c d ab true (ha ▸ habt) hb hg rfl hTb htm hgl hbody hln hnx
  · exact send_noq h c d ab abt hb
end Go.Proofs.YtgbbajeeelgbhaaGreatDoor.Qc
