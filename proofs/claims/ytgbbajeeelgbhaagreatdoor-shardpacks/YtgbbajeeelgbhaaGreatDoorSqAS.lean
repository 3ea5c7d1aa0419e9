/-
  SeA QuD QuE QuF, joined by mrg.py.
-/
import Derived.Test.YtgbbajeeelgbhaaGreatDoorSqAG
import Derived.Test.YtgbbajeeelgbhaaGreatDoorSqAR
import Derived.Test.YtgbbajeeelgbhaaGreatDoorSqAO
import Derived.Test.YtgbbajeeelgbhaaGreatDoorSqAQ

namespace Go.Proofs.YtgbbajeeelgbhaaGreatDoor.Sa
open Go.RowKit Kt Pl Wi Wk Wa Sm
open Dk (Fr Nx)
open At (RowT)
set_option linter.unusedVariables false
set_option linter.unusedSimpArgs false
set_option maxRecDepth 20000

/-- What is noted: a client, a number, a reply. -/
structure E where
  k : Int
  n : Int
  r : Rp
/-- .. and where its lists lie. -/
structure X where
  p : E
  ga : Option Addr
  gc : Nat
  da : Option Addr
  dc : Nat
  ra : Option Addr
  rc : Nat
def X.k (x : X) : Int := x.p.k
def X.v (x : X) : Value := .agg #[.int .i64 x.p.n, .int .i64 x.p.r.err, .int .i64 x.p.r.seq, .int .i64 x.p.r.n, .slice x.ga x.p.r.got.length x.gc, .slice x.da x.p.r.data.length x.dc, .slice x.ra x.p.r.about.length x.rc]
def zX : Value := .agg #[.int .i64 0, .int .i64 0, .int .i64 0, .int .i64 0, .slice none 0 0, .slice none 0 0, .slice none 0 0]
theorem p_k (x : X) : E.k x.p = X.k x := rfl

/-- Rows stay where a block without cells turns. -/
def Bare (w : World) (b : Nat) : Prop := ∀ a v, w.cell? a = some v → a.block ≠ b
theorem rowS_fr {α : Type} {n : Nat} {cs : α → List Value} {w w' : World} {Q : Nat → Prop} {ao : Option Addr} {l : List α} (h : RowS n cs w ao l) (hf : Fr Q w w') (hq : ∀ a v, w.cell? a = some v → (∃ a', ao = some a' ∧ a'.block = a.block) → ¬ Q a.block) : RowS n cs w' ao l := by
  intro hl
  obtain ⟨b, off, e, hc⟩ := h hl
  refine ⟨b, off, e, fun i x hx j v hv => ?_⟩
  have h1 := hc i x hx j v hv
  have hlt := World.block_lt_of_cell? w _ h1
  rw [World.cell?_of_block (w := w) (a := ⟨b, off + i * n + j, none⟩) (hf.heap hlt (hq _ _ h1 ⟨_, e, rfl⟩))]
  exact h1
theorem rowT_fr {w w' : World} {Q : Nat → Prop} {ao : Option Addr} {l : List Bs} (h : RowT w ao l) (hf : Fr Q w w') (hq : ∀ a v, w.cell? a = some v → (∃ a', ao = some a' ∧ a'.block = a.block) → ¬ Q a.block) : RowT w' ao l := by
  intro hl
  obtain ⟨b, off, e, hc⟩ := h hl
  refine ⟨b, off, e, fun i hi => ?_⟩
  have h1 := hc i hi
  have hlt := World.block_lt_of_cell? w _ h1
  rw [World.cell?_of_block (w := w) (a := ⟨b, off + i, none⟩) (hf.heap hlt (hq _ _ h1 ⟨_, e, rfl⟩))]
  exact h1
theorem rpM_bare {w w' : World} {b : Nat} {r : Rp} {ga da ra : Option Addr} (h : RpM w r ga da ra) (hf : Fr (fun k => k = b) w w') (hb : Bare w b) : RpM w' r ga da ra :=
  ⟨rowS_fr h.got hf (fun a v hc _ => hb a v hc), rowT_fr h.data hf (fun a v hc _ => hb a v hc), rowS_fr h.about hf (fun a v hc _ => hb a v hc)⟩
/-- A reply's lists lie in blocks of F. -/
def Far (F : Nat → Prop) (ga da ra : Option Addr) : Prop := (∀ a, ga = some a → F a.block) ∧ (∀ a, da = some a → F a.block) ∧ (∀ a, ra = some a → F a.block)
theorem Far.mono {F G : Nat → Prop} {ga da ra : Option Addr} (h : Far F ga da ra) (hi : ∀ k, F k → G k) : Far G ga da ra := ⟨fun a e => hi _ (h.1 a e), fun a e => hi _ (h.2.1 a e), fun a e => hi _ (h.2.2 a e)⟩
theorem rpM_fr {w w' : World} {Q : Nat → Prop} {r : Rp} {ga da ra : Option Addr} (h : RpM w r ga da ra) (hf : Fr Q w w') (hF : Far (fun k => ¬ Q k) ga da ra) : RpM w' r ga da ra :=
  ⟨rowS_fr h.got hf (fun a v _ ⟨a', e, hb⟩ => hb ▸ hF.1 a' e), rowT_fr h.data hf (fun a v _ ⟨a', e, hb⟩ => hb ▸ hF.2.1 a' e), rowS_fr h.about hf (fun a v _ ⟨a', e, hb⟩ => hb ▸ hF.2.2 a' e)⟩
theorem Bare.below {w w' : World} {b : Nat} (h : Bare w b) (hb : Below w.heap.size w w') (hlt : b < w.heap.size) : Bare w' b := by
  rintro a v hc rfl
  refine h a v ?_ rfl
  rw [← hc]
  exact (World.cell?_of_block (w := w) (a := a) (hb.block _ hlt)).symm

abbrev Mt := Mw X.k X.v Tryz.prog 3
theorem Mt.bare {w : World} {b : Nat} {l : List X} (h : Mt w b l) : Bare w b := fun a v hc => Mw.cell h hc
theorem uI : Tryz.prog.underlying 3 = some (.int .i64) := Tryz.underlying3
theorem zA (w : World) : (zeroValue 150).run Tryz.prog w = .ok zX w := by kernel_rfl

/-- What may be a client, or a number. -/
def num (n : Int) : Prop := 1 ≤ n ∧ n ≤ 1099511627776
instance (n : Int) : Decidable (num n) := by unfold num; infer_instance
/-- Block T is a table that has this, in blocks of F. -/
structure Tx (w : World) (F : Nat → Prop) (T Mb : Nat) (xs : List X) : Prop where
  bx : Bx w T #[.map (some Mb)] 153
  m : Mt w Mb xs
  s : Srt X.k xs
  r : ∀ x ∈ xs, RpM w x.p.r x.ga x.da x.ra ∧ Cnt x.p.r ∧ Far F x.ga x.da x.ra ∧ num x.p.k ∧ num x.p.n
  ft : F T
  fm : F Mb
  len : xs.length ≤ 64
def Tb (w : World) (F : Nat → Prop) (T Mb : Nat) (l : List E) : Prop := ∃ xs : List X, xs.map X.p = l ∧ Tx w F T Mb xs
theorem Tx.fr {w w' : World} {F Q : Nat → Prop} {T Mb : Nat} {xs : List X} (h : Tx w F T Mb xs) (hf : Fr Q w w') (hq : ∀ k, F k → ¬ Q k) : Tx w' F T Mb xs :=
  ⟨(hf.heap h.bx.lt (hq _ h.ft)).trans h.bx, h.m.fr hf (hq _ h.fm), h.s, fun x hx => by
    obtain ⟨h1, h2, h3, h4⟩ := h.r x hx
    exact ⟨rpM_fr h1 hf (h3.mono hq), h2, h3, h4⟩, h.ft, h.fm, h.len⟩
theorem Tx.below {w w' : World} {F : Nat → Prop} {T Mb : Nat} {xs : List X} (h : Tx w F T Mb xs) (hb : Below w.heap.size w w') : Tx w' F T Mb xs :=
  h.fr (Q := fun _ => False) (Fr.ofBelow hb) (fun _ _ x => x)
theorem Tx.mono {w : World} {F G : Nat → Prop} {T Mb : Nat} {xs : List X} (h : Tx w F T Mb xs) (hi : ∀ k, F k → G k) : Tx w G T Mb xs :=
  ⟨h.bx, h.m, h.s, fun x hx => by obtain ⟨h1, h2, h3, h4⟩ := h.r x hx; exact ⟨h1, h2, h3.mono hi, h4⟩, hi _ h.ft, hi _ h.fm, h.len⟩
theorem Tb.fr {w w' : World} {F Q : Nat → Prop} {T Mb : Nat} {l : List E} (h : Tb w F T Mb l) (hf : Fr Q w w') (hq : ∀ k, F k → ¬ Q k) : Tb w' F T Mb l := by
  obtain ⟨xs, e, h⟩ := h
  exact ⟨xs, e, h.fr hf hq⟩
theorem Tb.below {w w' : World} {F : Nat → Prop} {T Mb : Nat} {l : List E} (h : Tb w F T Mb l) (hb : Below w.heap.size w w') : Tb w' F T Mb l := by
  obtain ⟨xs, e, h⟩ := h
  exact ⟨xs, e, h.below hb⟩
theorem Tb.mono {w : World} {F G : Nat → Prop} {T Mb : Nat} {l : List E} (h : Tb w F T Mb l) (hi : ∀ k, F k → G k) : Tb w G T Mb l := by
  obtain ⟨xs, e, h⟩ := h
  exact ⟨xs, e, h.mono hi⟩

theorem eql_nil {P : Program} (w : World) (t e : TypeId) (a : Option Addr) (l c : Nat) (h : P.underlying t = some (.slice e)) : (binOp .eql t (.slice a l c) (.slice none 0 0)).run P w = .ok (.bool a.isNone) w := by
  have h1 : ∀ d, (Op.equalIn (d + 1) t (.slice a l c) (.slice none 0 0)).run P w = .ok a.isNone w := fun d => by cases a <;> simp [Op.equalIn, run_underlying h]
  have h2 : (Op.equal t (.slice a l c) (.slice none 0 0)).run P w = .ok a.isNone w := h1 9999
  simp only [binOp]
  simp [h2]
theorem neq_map {P : Program} (w : World) (t k e : TypeId) (mo : Option Nat) (h : P.underlying t = some (.map k e)) : (binOp .neq t (.map mo) (.map none)).run P w = .ok (.bool mo.isSome) w := by
  have h1 : ∀ d, (Op.equalIn (d + 1) t (.map mo) (.map none)).run P w = .ok mo.isNone w := fun d => by cases mo <;> simp [Op.equalIn, run_underlying h]
  have h2 : (Op.equal t (.map mo) (.map none)).run P w = .ok mo.isNone w := h1 9999
  simp only [binOp]
  cases mo <;> simp [h2]
theorem info_G : (Tryz.prog.info? 155).map (fun i => (i.zero, i.size, i.bytes)) = some (some (.agg #[.int .i64 0, .string ⟨#[]⟩, .int .i64 0, .int .i64 0, .string ⟨#[]⟩, .int .i64 0]), 6, 64) := by kernel_rfl
theorem info_R : (Tryz.prog.info? 37).map (fun i => (i.zero, i.size, i.bytes)) = some (some (.agg #[.int .i64 0, .int .i64 0]), 2, 16) := by kernel_rfl
theorem info_S : (Tryz.prog.info? 9).map (fun i => (i.zero, i.size, i.bytes)) = some (some (.string ⟨#[]⟩), 1, 16) := by kernel_rfl
theorem srcT {w : World} {ao : Option Addr} {l : List Bs} (h : RowT w ao l) (c : Nat) : Src Tryz.prog 1 33 (.slice ao l.length c) l.length (T l) w := by
  by_cases h0 : 0 < l.length
  · obtain ⟨b, off, rfl, hc⟩ := h h0
    refine Src.ofSlice w Tryz.underlying33 _ _ c _ (by rw [T_length]; omega) (fun j u hj => ?_) (fun u hu => ?_)
    · have hj1 : j < l.length := by have := lt_of hj; rwa [T_length] at this
      rw [Addr.add_lit, hc j hj1]
      simp only [T, List.getElem?_map, List.getElem?_eq_getElem hj1, Option.map_some] at hj
      rw [← hj]
      simp [List.getD, List.getElem?_eq_getElem hj1]
    · simp only [T, List.mem_map] at hu
      obtain ⟨s, -, rfl⟩ := hu
      rfl
  · have e : l = [] := List.eq_nil_of_length_eq_zero (by omega)
    subst e
    cases ao with
    | none => exact Src.ofNil w Tryz.underlying33 c
    | some a => exact Src.ofSlice w Tryz.underlying33 a 0 c [] (by simp) (fun j u hj => by simp at hj) (fun u hu => by cases hu)
theorem srcG {w : World} {ao : Option Addr} {l : List Gt} (h : RowG w ao l) (c : Nat) : Src Tryz.prog 6 44 (.slice ao l.length c) l.length (Fl gC l) w := RowS.src gC_len gC_one (by decide) Tryz.underlying44 h c
theorem srcR {w : World} {ao : Option Addr} {l : List (Int × Int)} (h : RowR w ao l) (c : Nat) : Src Tryz.prog 2 22 (.slice ao l.length c) l.length (Fl rC l) w := RowS.src rC_len rC_one (by decide) Tryz.underlying22 h c

set_option maxHeartbeats 400000 in
theorem cloneG_any (w : World) (ao : Option Addr) (cap : Nat) (l : List Gt) (hr : RowG w ao l) (hl : l.length ≤ 1000000000) :
    Calls Tryz.prog 228 #[.slice ao l.length cap] w fun e w' => ∃ a' c', e = .returned (.slice a' l.length c') ∧ w'.ownsRow w.heap.size 155 6 (.slice a' l.length c') l.length (Fl gC l) ∧ Below w.heap.size w w' := by
  cases ao with
  | none =>
    have h0 : l = [] := by
      rcases Nat.eq_zero_or_pos l.length with h | h
      · exact List.eq_nil_of_length_eq_zero h
      · obtain ⟨b, off, e, _⟩ := hr h; cases e
    subst h0
    have hq := eql_nil (P := Tryz.prog) w 44 155 none 0 cap Tryz.underlying44
    simp only [Option.isNone] at hq
    go_enter Tryz.func228, Tryz.ntmps228
    go_wp2
    go_ret
    exact ⟨none, 0, rfl, by simpa [Fl, T] using World.ownsRow_nil w _ _ _, Below.refl _ _⟩
  | some a =>
    have hq := eql_nil (P := Tryz.prog) w 44 155 (some a) l.length cap Tryz.underlying44
    simp only [Option.isNone] at hq
    have hbz : l.length * 64 ≤ 140737488355328 := by omega
    have HS := mkH (srcG (hr.below ((Below.refl w.heap.size w).alloc (Nat.le_refl _) (.cells #[] 155))) cap)
    clear hr
    go_enter Tryz.func228, Tryz.ntmps228
    go_wp2_with (at_builtin; refine (wpList_append_own_src _ rfl (.tmp 5) (.tmp 6) 44 44 rfl w.heap.size 155 _ 6 64 Tryz.underlying44 info_G rfl (by decide) _ 0 [] rfl (World.ownsRow_made w #[] 0 (Nat.le_refl _) (Nat.zero_le _) rfl) _ l.length (Fl gC l) rfl HS.out ?h632 ?hby2 ?hbs2 ?_))
    case h632 => unfold maxLen; omega
    case hby2 => omega
    case hbs2 => simp
    intro v2 w2 hown2 hgrow2
    have hbel := below_own (World.ownsRow_made (e := 155) (size := 6) w #[] 0 (Nat.le_refl _) (Nat.zero_le _) rfl) hgrow2 ((Below.refl w.heap.size w).alloc (Nat.le_refl _) (.cells #[] 155)) (by simp)
    have hown3 : w2.ownsRow w.heap.size 155 6 v2 l.length (Fl gC l) := by simpa using hown2
    clear hown2 hgrow2 HS
    obtain ⟨a', c', rfl⟩ := own_form hown3
    go_wp2
    go_ret
    exact ⟨a', c', rfl, hown3, hbel⟩

set_option maxHeartbeats 400000 in
theorem cloneT_any (w : World) (ao : Option Addr) (cap : Nat) (l : List Bs) (hr : RowT w ao l) (hl : l.length ≤ 1000000000) :
    Calls Tryz.prog 65 #[.slice ao l.length cap] w fun e w' => ∃ a' c', e = .returned (.slice a' l.length c') ∧ w'.ownsRow w.heap.size 9 1 (.slice a' l.length c') l.length (T l) ∧ Below w.heap.size w w' := by
  cases ao with
  | none =>
    have h0 : l = [] := by
      rcases Nat.eq_zero_or_pos l.length with h | h
      · exact List.eq_nil_of_length_eq_zero h
      · obtain ⟨b, off, e, _⟩ := hr h; cases e
    subst h0
    have hq := eql_nil (P := Tryz.prog) w 33 9 none 0 cap Tryz.underlying33
    simp only [Option.isNone] at hq
    go_enter Tryz.func65, Tryz.ntmps65
    go_wp2
    go_ret
    exact ⟨none, 0, rfl, by simpa [Fl, T] using World.ownsRow_nil w _ _ _, Below.refl _ _⟩
  | some a =>
    have hq := eql_nil (P := Tryz.prog) w 33 9 (some a) l.length cap Tryz.underlying33
    simp only [Option.isNone] at hq
    have hbz : l.length * 16 ≤ 140737488355328 := by omega
    have HS := mkH (srcT (hr.below ((Below.refl w.heap.size w).alloc (Nat.le_refl _) (.cells #[] 9))) cap)
    clear hr
    go_enter Tryz.func65, Tryz.ntmps65
    go_wp2_with (at_builtin; refine (wpList_append_own_src _ rfl (.tmp 5) (.tmp 6) 33 33 rfl w.heap.size 9 _ 1 16 Tryz.underlying33 info_S rfl (by decide) _ 0 [] rfl (World.ownsRow_made w #[] 0 (Nat.le_refl _) (Nat.zero_le _) rfl) _ l.length (T l) rfl HS.out ?h632 ?hby2 ?hbs2 ?_))
    case h632 => unfold maxLen; omega
    case hby2 => omega
    case hbs2 => simp
    intro v2 w2 hown2 hgrow2
    have hbel := below_own (World.ownsRow_made (e := 9) (size := 1) w #[] 0 (Nat.le_refl _) (Nat.zero_le _) rfl) hgrow2 ((Below.refl w.heap.size w).alloc (Nat.le_refl _) (.cells #[] 9)) (by simp)
    have hown3 : w2.ownsRow w.heap.size 9 1 v2 l.length (T l) := by simpa using hown2
    clear hown2 hgrow2 HS
    obtain ⟨a', c', rfl⟩ := own_form hown3
    go_wp2
    go_ret
    exact ⟨a', c', rfl, hown3, hbel⟩

set_option maxHeartbeats 400000 in
theorem cloneR_any (w : World) (ao : Option Addr) (cap : Nat) (l : List (Int × Int)) (hr : RowR w ao l) (hl : l.length ≤ 1000000000) :
    Calls Tryz.prog 105 #[.slice ao l.length cap] w fun e w' => ∃ a' c', e = .returned (.slice a' l.length c') ∧ w'.ownsRow w.heap.size 37 2 (.slice a' l.length c') l.length (Fl rC l) ∧ Below w.heap.size w w' := by
  cases ao with
  | none =>
    have h0 : l = [] := by
      rcases Nat.eq_zero_or_pos l.length with h | h
      · exact List.eq_nil_of_length_eq_zero h
      · obtain ⟨b, off, e, _⟩ := hr h; cases e
    subst h0
    have hq := eql_nil (P := Tryz.prog) w 22 37 none 0 cap Tryz.underlying22
    simp only [Option.isNone] at hq
    go_enter Tryz.func105, Tryz.ntmps105
    go_wp2
    go_ret
    exact ⟨none, 0, rfl, by simpa [Fl, T] using World.ownsRow_nil w _ _ _, Below.refl _ _⟩
  | some a =>
    have hq := eql_nil (P := Tryz.prog) w 22 37 (some a) l.length cap Tryz.underlying22
    simp only [Option.isNone] at hq
    have hbz : l.length * 16 ≤ 140737488355328 := by omega
    have HS := mkH (srcR (hr.below ((Below.refl w.heap.size w).alloc (Nat.le_refl _) (.cells #[] 37))) cap)
    clear hr
    go_enter Tryz.func105, Tryz.ntmps105
    go_wp2_with (at_builtin; refine (wpList_append_own_src _ rfl (.tmp 5) (.tmp 6) 22 22 rfl w.heap.size 37 _ 2 16 Tryz.underlying22 info_R rfl (by decide) _ 0 [] rfl (World.ownsRow_made w #[] 0 (Nat.le_refl _) (Nat.zero_le _) rfl) _ l.length (Fl rC l) rfl HS.out ?h632 ?hby2 ?hbs2 ?_))
    case h632 => unfold maxLen; omega
    case hby2 => omega
    case hbs2 => simp
    intro v2 w2 hown2 hgrow2
    have hbel := below_own (World.ownsRow_made (e := 37) (size := 2) w #[] 0 (Nat.le_refl _) (Nat.zero_le _) rfl) hgrow2 ((Below.refl w.heap.size w).alloc (Nat.le_refl _) (.cells #[] 37)) (by simp)
    have hown3 : w2.ownsRow w.heap.size 37 2 v2 l.length (Fl rC l) := by simpa using hown2
    clear hown2 hgrow2 HS
    obtain ⟨a', c', rfl⟩ := own_form hown3
    go_wp2
    go_ret
    exact ⟨a', c', rfl, hown3, hbel⟩
end Go.Proofs.YtgbbajeeelgbhaaGreatDoor.Sa

namespace Go.Proofs.YtgbbajeeelgbhaaGreatDoor.Qd
open Go.RowKit Kt Gf Gk Gp Qm Qa Qb Qc Go.Shelf Go.Lib
open Gr (RowS Fl Gl Go' gC)
open Pl (Rg may inn fnd join)
open Pr (Rw Ow)
open Po (ofP)
open Wi (Rp Cm)
open Wk (Cv)
open Wa (Pv RpM)
set_option linter.unusedVariables false
set_option linter.unusedSectionVars false
set_option linter.unusedSimpArgs false
set_option maxRecDepth 20000

theorem rw_row {w : World} {ao : Option Addr} {l : List Rg} (h : Rw w ao l) : Wa.RowR w ao l := by
  intro hl
  obtain ⟨b, off, e, hc⟩ := h hl
  refine ⟨b, off, e, fun i x hx j v hv => ?_⟩
  obtain ⟨h1, h2⟩ := hc i x hx
  match j, hv with
  | 0, hv => simp [Wa.rC] at hv; rw [← hv]; exact h1
  | 1, hv => simp [Wa.rC] at hv; rw [← hv]; exact h2
  | j + 2, hv => simp [Wa.rC] at hv
theorem row_rw {w : World} {ao : Option Addr} {l : List Rg} (h : Wa.RowR w ao l) : Rw w ao l := by
  intro hl
  obtain ⟨b, off, e, hc⟩ := h hl
  refine ⟨b, off, e, fun i r hr => ⟨?_, ?_⟩⟩
  · exact hc i r hr 0 _ rfl
  · exact hc i r hr 1 _ rfl
theorem cloneW_any (w : World) (ao : Option Addr) (cap : Nat) (l : List Rg) (hr : Rw w ao l) (hl : l.length ≤ 1000000000) :
    Calls Tryz.prog 105 #[.slice ao l.length cap] w fun e w' => ∃ a' c', e = .returned (.slice a' l.length c') ∧ Ow w' w.heap.size (.slice a' l.length c') l ∧ Below w.heap.size w w' := Sa.cloneR_any w ao cap l (rw_row hr) hl

/-- Does a name's place lie in some ranges? -/
def isInP (l : List Rg) (s : ByteArray) : Bool := decide (0 ≤ fnd l ((ofP s.data.toList : Nat) : Int) 0)
theorem isIn_any (w : World) (ao : Option Addr) (cap : Nat) (l : List Rg) (s : ByteArray) (hr : Rw w ao l) (hl : l.length ≤ 1000000) (hs : s.size ≤ 9223372036854775807) :
    Calls Tryz.prog 162 #[.slice ao l.length cap, .string s] w fun e w' => e = .returned (.bool (isInP l s)) ∧ Below w.heap.size w w' := by
  have HR := mkH hr
  have HS := mkH hs
  have HL := mkH hl
  obtain ⟨r, hrr⟩ : ∃ r, fnd l ((ofP s.data.toList : Nat) : Int) 0 = r := ⟨_, rfl⟩
  have HRR := mkH hrr
  have HQ : Hid (isInP l s = decide (0 ≤ r)) := mkH (by unfold isInP; rw [hrr])
  clear hr hs hl hrr
  go_enter Tryz.func162, Tryz.ntmps162
  go_wp2_with (first
    | (go_at_call 176; refine (Po.of_any w s HS.out).mono ?_; rintro e1 w1 ⟨rfl, h1⟩; have h2 := h1.symm; clear h1; subst h2)
    | (go_at_call 175; refine (Pg.find_any w ao cap l _ HR.out HL.out).mono ?_; rintro e2 w2 ⟨rfl, hb2⟩; rw [HRR.out]; have HB2 := mkH hb2; clear hb2))
  go_ret
  exact ⟨by rw [HQ.out]; rfl, HB2.out⟩
section
variable {w : World} {Xb Mb : Nat} {cf : List Cf} {sv : List Rg} {xs : List X} {qa : Option Addr} {qc : Nat} {sa : Option Addr} {sc : Nat}
theorem scope_nil (h : Ex w Xb Mb cf sv xs qa qc sa sc) (hl : sv.length ≤ 1000000) (ab : Option Addr) (ac : Nat) :
    Calls Tryz.prog 270 #[.pointer (some ⟨Xb, 0, none⟩), .slice ab 0 ac] w fun e w' => ∃ a' c', e = .returned (.slice a' sv.length c') ∧ Ow w' w.heap.size (.slice a' sv.length c') sv ∧ Below w.heap.size w w' := by
  have c1 : w.cell? ⟨Xb, 1, none⟩ = some (.slice sa sv.length sc) := h.bx.cell 1 _ rfl
  have HR := mkH h.sr
  have HL := mkH hl
  clear h hl
  go_enter Tryz.func270, Tryz.ntmps270
  go_wp2_with (go_at_call 105; refine (cloneW_any w sa sc sv HR.out (by have := HL.out; omega)).mono ?_; rintro e2 w2 ⟨a', c', rfl, hO, hb2⟩; have HO := mkH hO; have HB2 := mkH hb2; clear hO hb2)
  go_ret
  exact ⟨a', c', rfl, HO.out, HB2.out⟩
theorem isAbout_nil (h : Ex w Xb Mb cf sv xs qa qc sa sc) (hl : sv.length ≤ 1000000) (s : ByteArray) (hs : s.size ≤ 9223372036854775807) (ab : Option Addr) (ac : Nat) :
    Calls Tryz.prog 266 #[.pointer (some ⟨Xb, 0, none⟩), .string s, .slice ab 0 ac] w fun e w' => e = .returned (.bool (isInP sv s)) ∧ Below w.heap.size w w' := by
  have HX := mkH h
  have HL := mkH hl
  have HS := mkH hs
  obtain ⟨r, hr⟩ : ∃ r, isInP sv s = r := ⟨_, rfl⟩
  have HR := mkH hr
  rw [hr]
  clear h hl hr hs
  go_enter Tryz.func266, Tryz.ntmps266
  go_wp2_with (first
    | (go_at_call 270; refine (scope_nil HX.out HL.out ab ac).mono ?_; rintro e2 w2 ⟨a', c', rfl, hO, hb2⟩; have HO := mkH hO; have HB2 := mkH hb2; clear hO hb2)
    | (go_at_call 162; refine (isIn_any w2 a' c' sv s HO.out.rw HL.out HS.out).mono ?_; rintro e3 w3 ⟨rfl, hb3⟩; rw [HR.out]; have HB3 := mkH (HB2.out.trans (hb3.mono HB2.out.size)); clear hb3))
  go_ret
  exact ⟨rfl, HB3.out⟩
end
end Go.Proofs.YtgbbajeeelgbhaaGreatDoor.Qd

namespace Go.Proofs.YtgbbajeeelgbhaaGreatDoor.Qe
open Go.RowKit Kt Gf Gk Gp Qm Qa Qb Qc Qd Go.Shelf Go.Lib
open Gr (RowS Fl Gl Go' gC)
open Pl (Rg may inn fnd join real putAll)
open Pr (Rw Ow)
open Wi (Rp Cm)
open Wk (Cv)
open Wa (Pv RpM)
set_option linter.unusedVariables false
set_option linter.unusedSectionVars false
set_option linter.unusedSimpArgs false
set_option maxRecDepth 20000

theorem infoQ : (Tryz.prog.info? 89).map (fun i => (i.zero, i.size, i.bytes)) = some (some (.agg #[.int .i64 0, .int .i64 0, .int .i64 0, .int .i64 0]), 4, 32) := by kernel_rfl
theorem srcQ {w : World} {ao : Option Addr} {l : List Cf} (h : RowQ w ao l) (c : Nat) : Src Tryz.prog 4 28 (.slice ao l.length c) l.length (Fl cfC l) w := Gr.RowS.src cfC_len cfC_one (by decide) Tryz.underlying28 h c

set_option maxHeartbeats 400000 in
theorem cloneQ_any (w : World) (ao : Option Addr) (cap : Nat) (l : List Cf) (hr : RowQ w ao l) (hl : l.length ≤ 1000000000) :
    Calls Tryz.prog 79 #[.slice ao l.length cap] w fun e w' => ∃ a' c', e = .returned (.slice a' l.length c') ∧ w'.ownsRow w.heap.size 89 4 (.slice a' l.length c') l.length (Fl cfC l) ∧ Below w.heap.size w w' := by
  cases ao with
  | none =>
    have h0 : l = [] := by
      rcases Nat.eq_zero_or_pos l.length with h | h
      · exact List.eq_nil_of_length_eq_zero h
      · obtain ⟨b, off, e, _⟩ := hr h; cases e
    subst h0
    have hq := Gr.eql_nil (P := Tryz.prog) w 28 89 none 0 cap Tryz.underlying28
    simp only [Option.isNone] at hq
    go_enter Tryz.func79, Tryz.ntmps79
    go_wp2
    go_ret
    exact ⟨none, 0, rfl, by simpa [Fl] using World.ownsRow_nil w _ _ _, Below.refl _ _⟩
  | some a =>
    have hq := Gr.eql_nil (P := Tryz.prog) w 28 89 (some a) l.length cap Tryz.underlying28
    simp only [Option.isNone] at hq
    have hbz : l.length * 32 ≤ 140737488355328 := by omega
    have HS := mkH (srcQ (hr.below ((Below.refl w.heap.size w).alloc (Nat.le_refl _) (.cells #[] 89))) cap)
    clear hr
    go_enter Tryz.func79, Tryz.ntmps79
    go_wp2_with (at_builtin; refine (wpList_append_own_src _ rfl (.tmp 5) (.tmp 6) 28 28 rfl w.heap.size 89 _ 4 32 Tryz.underlying28 infoQ rfl (by decide) _ 0 [] rfl (World.ownsRow_made w #[] 0 (Nat.le_refl _) (Nat.zero_le _) rfl) _ l.length (Fl cfC l) rfl HS.out ?h632 ?hby2 ?hbs2 ?_))
    case h632 => unfold maxLen; omega
    case hby2 => omega
    case hbs2 => simp
    intro v2 w2 hown2 hgrow2
    have hbel := below_own (World.ownsRow_made (e := 89) (size := 4) w #[] 0 (Nat.le_refl _) (Nat.zero_le _) rfl) hgrow2 ((Below.refl w.heap.size w).alloc (Nat.le_refl _) (.cells #[] 89)) (by simp)
    have hown3 : w2.ownsRow w.heap.size 89 4 v2 l.length (Fl cfC l) := by simpa using hown2
    clear hown2 hgrow2 HS
    obtain ⟨a', c', rfl⟩ := own_form hown3
    go_wp2
    go_ret
    exact ⟨a', c', rfl, hown3, hbel⟩

/-- What a queue may be, the i-th of n. -/
def visOk (c : Cf) : Prop := 0 ≤ c.vis ∧ c.vis ≤ 43200
def keepOk (c : Cf) : Prop := 1 ≤ c.keep ∧ c.keep ≤ 1209600
def maxOk (c : Cf) : Prop := 0 ≤ c.max ∧ c.max ≤ 1000
def deadOk (n i : Nat) (c : Cf) : Prop := c.dead = -1 ∨ (0 ≤ c.dead ∧ c.dead < (n : Int) ∧ c.dead ≠ (i : Int))
def mayC (n i : Nat) (c : Cf) : Prop := visOk c ∧ keepOk c ∧ maxOk c ∧ deadOk n i c
def mayQ (l : List Cf) : Prop := (1 ≤ l.length ∧ l.length ≤ 6) ∧ ∀ i c, l[i]? = some c → mayC l.length i c
open Classical in
noncomputable def mayQb (l : List Cf) : Bool := decide (mayQ l)
theorem mayQ_false {l : List Cf} {i : Nat} {c : Cf} (h : l[i]? = some c) (hb : ¬ mayC l.length i c) : mayQb l = false := by
  unfold mayQb; rw [decide_eq_false_iff_not]; exact fun x => hb (x.2 i c h)
theorem mayQ_true {l : List Cf} (h1 : 1 ≤ l.length) (h2 : l.length ≤ 6) (h : ∀ i c, i < l.length → l[i]? = some c → mayC l.length i c) : mayQb l = true := by
  unfold mayQb; refine (@decide_eq_true_iff _ (Classical.propDecidable _)).2 ?_; exact ⟨⟨h1, h2⟩, fun i c hc => h i c (Gr.lt_of hc) hc⟩
theorem mayQ_len {l : List Cf} (h : ¬ (1 ≤ l.length ∧ l.length ≤ 6)) : mayQb l = false := by
  unfold mayQb; rw [decide_eq_false_iff_not]; exact fun x => h x.1

set_option maxHeartbeats 4000000 in
theorem mayBe_len (w : World) (ao : Option Addr) (cap : Nat) (n : Nat) (hn : n = 0 ∨ 6 < n) :
    Calls Tryz.prog 77 #[.slice ao n cap] w fun e w' => e = .returned (.bool false) ∧ w' = w := by
  rcases hn with rfl | hn
  · go_enter Tryz.func77, Tryz.ntmps77
    go_wp2
    go_ret
    exact ⟨rfl, rfl⟩
  · have h1 : ¬ n = 0 := by omega
    have h2 : (6 : Int) < (n : Int) := by omega
    go_enter Tryz.func77, Tryz.ntmps77
    go_wp2
    go_ret
    exact ⟨rfl, rfl⟩

set_option maxHeartbeats 16000000 in
theorem mayBe_any (w : World) (ao : Option Addr) (cap : Nat) (l : List Cf) (hr : RowQ w ao l) (hl : 1 ≤ l.length ∧ l.length ≤ 6) :
    Calls Tryz.prog 77 #[.slice ao l.length cap] w fun e w' => e = .returned (.bool (mayQb l)) ∧ Below w.heap.size w w' := by
  have HR := mkH hr
  obtain ⟨V, hV⟩ : ∃ V, V = mayQb l := ⟨_, rfl⟩
  rw [← hV]
  have HV := mkH hV
  have h1 : ¬ l.length = 0 := by omega
  have h2 : ¬ (6 : Int) < (l.length : Int) := by omega
  have h3 : (l.length : Int) ≤ 6 := by omega
  have HL := mkH hl
  clear hr hV hl
  go_enter Tryz.func77, Tryz.ntmps77
  go_wp2
  go_loopw [16] (fun i wr => ∃ k : Nat, k ≤ l.length ∧ i = .int .i64 k ∧ Hid (∀ i c, i < k → l[i]? = some c → mayC l.length i c) ∧ Hid (Below w.heap.size w wr)) (fun i _ => l.length - (intOf i).toNat)
  case atStart => exact ⟨0, Nat.zero_le _, rfl, mkH (fun i c h => by omega), Below.refl _ _⟩
  case round =>
    obtain ⟨k, hk, rfl, HM, HB⟩ := hrel
    by_cases hlt : k < l.length
    · obtain ⟨c, hck⟩ := Gr.some_of hlt
      obtain ⟨bk, o, rfl, hc⟩ := (HR.out.below HB.out) (by omega)
      have u0 := hc k _ hck 0 _ rfl
      have u1 := hc k _ hck 1 _ rfl
      have u2 := hc k _ hck 2 _ rfl
      have u3 := hc k _ hck 3 _ rfl
      have hi : (k : Int) < (l.length : Int) := by omega
      have hi0 : (0 : Int) ≤ (k : Int) := by omega
      have HK := mkH hck
      obtain ⟨vi, ke, mx, de⟩ := c
      simp only [Nat.add_zero] at u0 u1 u2 u3
      have HBA : Hid (Below w.heap.size w (wr.alloc (.cells #[.int .i64 vi, .int .i64 ke, .int .i64 mx, .int .i64 de] 89))) := mkH (HB.out.alloc HB.out.size _)
      clear hc hck
      have hN : Hid (∀ {p : Prop}, p → p) := mkH (fun h => h)
      by_cases hA : de = -1
      · have hA2 : (de != -1) = false := by simp [hA]
        have HA := mkH hA
        have hA3 : de < 0 := by omega
        clear hA
        go_wp2
        all_goals have hA := HA.out
        all_goals first
          | (go_ret; exact ⟨by rw [HV.out, mayQ_false HK.out (by unfold mayC visOk keepOk maxOk deadOk; dsimp only; omega)] <;> rfl, HBA.out⟩)
          | (refine ⟨⟨k + 1, by omega, by simp, mkH (fun i c hi hc => ?_), HBA⟩, by simp [intOf]; omega⟩
             by_cases hik : i < k
             · exact HM.out i c hik hc
             · obtain rfl : i = k := by omega
               rw [HK.out] at hc
               cases hc
               unfold mayC visOk keepOk maxOk deadOk; dsimp only; omega)
      · have hA2 : (de != -1) = true := by simp [hA]
        by_cases hB : de = (k : Int)
        · have hB2 : (de != (k : Int)) = false := by simp [hB]
          have HBk := mkH hB
          have hB3 : 0 ≤ de ∧ de < (l.length : Int) := by omega
          clear hB
          go_wp2
          all_goals have hB := HBk.out
          all_goals first
            | (go_ret; exact ⟨by rw [HV.out, mayQ_false HK.out (by unfold mayC visOk keepOk maxOk deadOk; dsimp only; omega)] <;> rfl, HBA.out⟩)
            | (refine ⟨⟨k + 1, by omega, by simp, mkH (fun i c hi hc => ?_), HBA⟩, by simp [intOf]; omega⟩
               by_cases hik : i < k
               · exact HM.out i c hik hc
               · obtain rfl : i = k := by omega
                 rw [HK.out] at hc
                 cases hc
                 unfold mayC visOk keepOk maxOk deadOk; dsimp only; omega)
        · have hB2 : (de != (k : Int)) = true := by simp [hB]
          go_wp2
          all_goals first
            | (go_ret; exact ⟨by rw [HV.out, mayQ_false HK.out (by unfold mayC visOk keepOk maxOk deadOk; dsimp only; omega)] <;> rfl, HBA.out⟩)
            | (refine ⟨⟨k + 1, by omega, by simp, mkH (fun i c hi hc => ?_), HBA⟩, by simp [intOf]; omega⟩
               by_cases hik : i < k
               · exact HM.out i c hik hc
               · obtain rfl : i = k := by omega
                 rw [HK.out] at hc
                 cases hc
                 unfold mayC visOk keepOk maxOk deadOk; dsimp only; omega)
    · have he : k = l.length := by omega
      have HE := mkH (HV.out.trans (mayQ_true HL.out.1 HL.out.2 (fun i c hi hc => HM.out i c (by omega) hc)))
      have hge : ¬ (k : Int) < (l.length : Int) := by omega
      subst he
      go_wp2
      go_ret
      exact ⟨by rw [HE.out]; rfl, HB.out⟩
end Go.Proofs.YtgbbajeeelgbhaaGreatDoor.Qe

namespace Go.Proofs.YtgbbajeeelgbhaaGreatDoor.Qf
open Go.RowKit Kt Gf Gk Gp Qm Qa Qb Qc Qd Qe Go.Shelf Go.Lib
open Gr (RowS Fl Gl Go' gC)
open Pl (Rg may inn fnd join real putAll)
open Pr (Rw Ow)
open Wi (Rp Cm)
open Wk (Cv)
open Wa (Pv RpM)
set_option linter.unusedVariables false
set_option linter.unusedSectionVars false
set_option linter.unusedSimpArgs false
set_option maxRecDepth 20000

/-- How many places some ranges have, one by one. -/
def tot (l : List Rg) : Int := (l.map fun r => r.2 - r.1).sum
theorem tot_snoc {l : List Rg} {k : Nat} {r : Rg} (h : l[k]? = some r) : tot (l.take (k + 1)) = tot (l.take k) + (r.2 - r.1) := by
  unfold tot
  rw [List.take_add_one, h]
  simp [List.sum_append]
def Bd (r : Rg) : Prop := 0 ≤ r.1 ∧ r.1 ≤ 65536 ∧ 0 ≤ r.2 ∧ r.2 ≤ 65536
theorem bd_may {l : List Rg} (h : l.all may = true) : ∀ r ∈ l, Bd r := fun r hr => by
  have h1 := List.all_eq_true.1 h r hr
  rw [Pl.may_iff] at h1
  unfold Bd; omega

set_option maxHeartbeats 4000000 in
theorem count_any (w : World) (ao : Option Addr) (cap : Nat) (l : List Rg) (hr : Rw w ao l) (hl : l.length ≤ 1000000) (hb : ∀ r ∈ l, Bd r) :
    Calls Tryz.prog 137 #[.slice ao l.length cap] w fun e w' => e = .returned (.int .i64 (tot l)) ∧ Below w.heap.size w w' := by
  have HR := mkH hr
  have HD := mkH hb
  obtain ⟨V, hV⟩ : ∃ V, V = tot l := ⟨_, rfl⟩
  rw [← hV]
  have HV := mkH hV
  clear hr hV hb
  go_enter Tryz.func137, Tryz.ntmps137
  go_wp2
  go_loopw [3, 8] (fun c i wr => ∃ k : Nat, ∃ z : Int, k ≤ l.length ∧ i = .int .i64 k ∧ c = .int .i64 z ∧ -65536 * (k : Int) ≤ z ∧ z ≤ 65536 * (k : Int) ∧ Hid (z = tot (l.take k)) ∧ Hid (Below w.heap.size w wr)) (fun _ i _ => l.length - (intOf i).toNat)
  case atStart => exact ⟨0, 0, Nat.zero_le _, rfl, rfl, by omega, by omega, rfl, Below.refl _ _⟩
  case round =>
    obtain ⟨k, z, hk, rfl, rfl, hz0, hz1, HZ, HB⟩ := hrel
    by_cases hlt : k < l.length
    · obtain ⟨⟨a, b⟩, hrk⟩ := Gr.some_of hlt
      obtain ⟨bk, o, rfl, hc⟩ := (HR.out.below HB.out) (by omega)
      obtain ⟨u1, u2⟩ := hc k _ hrk
      have hi : (k : Int) < (l.length : Int) := by omega
      have hi0 : (0 : Int) ≤ (k : Int) := by omega
      have HK := mkH hrk
      obtain ⟨d1, d2, d3, d4⟩ := HD.out (a, b) (List.mem_of_getElem? hrk)
      simp only at u1 u2 d1 d2 d3 d4
      have e1 : -9223372036854775808 ≤ b - a ∧ b - a ≤ 9223372036854775807 := by omega
      have e2 : -9223372036854775808 ≤ z + (b - a) ∧ z + (b - a) ≤ 9223372036854775807 := by omega
      clear hc hrk
      go_wp2
      refine ⟨⟨k + 1, z + (b - a), by omega, by simp, rfl, by omega, by omega, mkH ?_, mkH (HB.out.alloc HB.out.size _)⟩, by simp [intOf]; omega⟩
      rw [tot_snoc HK.out, HZ.out]
    · have he : k = l.length := by omega
      have HE : Hid (V = z) := mkH (by rw [HV.out, HZ.out, he, List.take_length])
      have hge : ¬ (k : Int) < (l.length : Int) := by omega
      subst he
      go_wp2
      go_ret
      exact ⟨by rw [HE.out] <;> rfl, HB.out⟩

theorem idx_neg (p : Rg → Bool) (d : Rg) : ∀ (l : List Rg) (k : Nat), decide (0 ≤ Lib.idxByFrom (fun _ y => p y) d l k) = l.any p
  | [], k => by simp [Lib.idxByFrom]
  | r :: t, k => by
    rw [Lib.idxByFrom, List.any_cons]
    cases hp : p r with
    | true => simp
    | false => simp [idx_neg p d t (k + 1)]
theorem bad_pred (w : World) : PredBelow Tryz.prog 135 #[] (fun x => .agg (Pg.encR x).toArray) (fun x => !may x) w := fun W x hb => by
  obtain ⟨x1, x2⟩ := x
  have hm := fun W => Pw.may_any W x1 x2
  show Calls Tryz.prog 135 #[.agg #[.int .i64 x1, .int .i64 x2]] W fun e w' => e = .returned (.bool (!may (x1, x2))) ∧ Below w.heap.size w w'
  generalize may (x1, x2) = r at hm ⊢
  go_enter Tryz.func135, Tryz.ntmps135
  go_wp2_with fail
  refine (hm _).mono ?_
  rintro e w1 ⟨rfl, rfl⟩
  go_wp2
  go_ret
  refine ⟨rfl, hb.trans (Below.mono ?_ hb.size)⟩
  exact ((Below.refl _ W).alloc (Nat.le_refl _) _).alloc (by simp) _

set_option maxHeartbeats 1000000 in
theorem contains_bad (w : World) (ao : Option Addr) (cap : Nat) (l : List Rg) (hr : Rw w ao l) (hl : l.length ≤ 1000000) :
    Calls Tryz.prog 134 #[.slice ao l.length cap, .func (.func 135) #[] #[]] w fun e w' => e = .returned (.bool (l.any (fun x => !may x))) ∧ Below w.heap.size w w' := by
  by_cases h0 : 0 < l.length
  · obtain ⟨b, off, rfl, hc⟩ := hr h0
    have hb : b < w.heap.size := hr.block h0
    have eg : ∀ args w, (callFunc 135 args).run Tryz.prog w = .ok (.enter 135 args) w := enters_of Tryz.func135 (by kernel_rfl) rfl
    have hcon := AnyQ.slices_IndexFunc Sh.lidx 2 Tryz.isAgg37 Tryz.sizeOf37 Pg.encR (fun _ => rfl) (fun x => !may x) 135 #[] eg b off l.length cap l w
      (bad_pred w) (Nat.le_refl _) (by omega) hb (fun j hj i v hi => by
        have h1 := hc j l[j]! (by rw [getElem!_pos l j hj]; exact List.getElem?_eq_getElem hj)
        generalize l[j]! = y at hi h1
        match i, hi with
        | 0, hi => simp [Pg.encR] at hi; rw [← hi]; exact h1.1
        | 1, hi => simp [Pg.encR] at hi; rw [← hi]; exact h1.2
        | i + 2, hi => simp [Pg.encR] at hi)
    rw [List.take_length] at hcon
    change Calls Tryz.prog 189 _ _ _ at hcon
    have he := idx_neg (fun x => !may x) default l 0
    rw [← he]
    clear hc hr he
    have hx : Lib.idxBy (fun _ y => !may y) l default = Lib.idxByFrom (fun _ y => !may y) default l 0 := rfl
    rw [hx] at hcon
    clear hx
    generalize Lib.idxByFrom (fun _ y => !may y) default l 0 = r at hcon ⊢
    go_enter Tryz.func134, Tryz.ntmps134
    go_wp2_with (go_at_call 189; refine hcon.mono ?_; rintro e w' ⟨rfl, hb'⟩)
    go_ret
    exact ⟨rfl, hb'⟩
  · have e : l = [] := List.eq_nil_of_length_eq_zero (by omega)
    subst e
    have hcon := fun W fv => Pg.index_none W ao cap fv
    clear hr
    go_enter Tryz.func134, Tryz.ntmps134
    go_wp2_with (go_at_call 189; refine (hcon _ _).mono ?_; rintro e w' ⟨rfl, rfl⟩)
    go_ret
    exact ⟨rfl, Below.refl _ _⟩

/-- May ranges be, and does none meet another one? -/
def apartR (l : List Rg) : Bool := l.all may && decide (tot l = tot (join l))
theorem join_len (l : List Rg) : (join l).length ≤ l.length := by
  unfold join
  refine Nat.le_trans (Pj.putAll_len _ _) ?_
  simp only [List.length_nil, Nat.zero_add, List.length_mergeSort]
  exact List.length_filter_le _ _
theorem any_not (l : List Rg) : l.any (fun x => !may x) = !l.all may := by
  induction l with
  | nil => rfl
  | cons r t ih => simp [ih, Bool.not_and]

set_option maxHeartbeats 4000000 in
theorem areApart_any (w : World) (ao : Option Addr) (cap : Nat) (l : List Rg) (hr : Rw w ao l) (hl : l.length ≤ 1000) :
    Calls Tryz.prog 78 #[.slice ao l.length cap] w fun e w' => e = .returned (.bool (apartR l)) ∧ Below w.heap.size w w' := by
  have HR := mkH hr
  have hcb := contains_bad w ao cap l hr (by omega)
  rw [any_not] at hcb
  cases hm : l.all may with
  | false =>
    rw [hm] at hcb
    have HE : Hid (apartR l = false) := mkH (by unfold apartR; rw [hm]; rfl)
    clear hr hm
    go_enter Tryz.func78, Tryz.ntmps78
    go_wp2_with (go_at_call 134; refine hcb.mono ?_; rintro e1 w1 ⟨rfl, hb1⟩)
    go_ret
    exact ⟨by rw [HE.out] <;> rfl, hb1⟩
  | true =>
    rw [hm] at hcb
    have HB := mkH (bd_may hm)
    have HBJ : Hid (∀ r ∈ join l, Bd r) := mkH (bd_may (List.all_eq_true.2 (Pl.join_canon l).1.1))
    have HJL := mkH (join_len l)
    have HL := mkH hl
    obtain ⟨t1, ht1⟩ : ∃ t, tot l = t := ⟨_, rfl⟩
    obtain ⟨t2, ht2⟩ : ∃ t, tot (join l) = t := ⟨_, rfl⟩
    have HT := mkH (And.intro ht1 ht2)
    have HE : Hid (apartR l = decide (t1 = t2)) := mkH (by unfold apartR; rw [hm, ht1, ht2]; rfl)
    clear hr hm ht1 ht2 hl
    go_enter Tryz.func78, Tryz.ntmps78
    go_wp2_with (first
      | (go_at_call 137; refine (count_any w3 a3 c3 (join l) HO3.out.rw (by have := HJL.out; have := HL.out; omega) HBJ.out).mono ?_; rintro e4 w4 ⟨rfl, hb4⟩; rw [HT.out.2]; have HB4 := mkH (HB3.out.trans (hb4.mono HB3.out.size)); clear hb4)
      | (go_at_call 80; refine (Pj.join_any w2 ao cap l (HR.out.below HB2.out) HL.out).mono ?_; rintro e3 w3 ⟨v3, rfl, hO3, hb3⟩; obtain ⟨a3, c3, rfl, -, -⟩ := hO3.form; have HO3 := mkH hO3; have HB3 := mkH (HB2.out.trans (hb3.mono HB2.out.size)); clear hO3 hb3)
      | (go_at_call 137; refine (count_any w1 ao cap l (HR.out.below HB1.out) (by have := HL.out; omega) HB.out).mono ?_; rintro e2 w2 ⟨rfl, hb2⟩; rw [HT.out.1]; have HB2 := mkH (HB1.out.trans (hb2.mono HB1.out.size)); clear hb2)
      | (go_at_call 134; refine hcb.mono ?_; rintro e1 w1 ⟨rfl, hb1⟩; have HB1 := mkH hb1; clear hb1))
    go_ret
    exact ⟨by rw [HE.out] <;> rfl, HB4.out⟩
end Go.Proofs.YtgbbajeeelgbhaaGreatDoor.Qf
