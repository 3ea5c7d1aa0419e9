/-
  What a table of sessions is in memory; slices.Clone of a reply's lists; copyReply, isMade, isNumber, New.
-/
import Derived.Test.YtenkgpfeifflnaaGreatWiA
import Derived.Test.YtenkgpfeifflnaaGreatSeM
namespace Go.Proofs.YtenkgpfeifflnaaGreat.Sa
open Go.RowKit Kt Pl Wi Wk Wa Sm
open Dk (Fr Nx)
open At (RowT)
set_option linter.unusedVariables false
set_option linter.unusedSimpArgs false
set_option maxRecDepth 20000

/-- What is noted: a client, a number, a reply. -/
structure E where
  k : Int
  n : Int
  r : Rp
/-- .. and where its lists lie. -/
structure X where
  p : E
  ga : Option Addr
  gc : Nat
  da : Option Addr
  dc : Nat
  ra : Option Addr
  rc : Nat
def X.k (x : X) : Int := x.p.k
def X.v (x : X) : Value := .agg #[.int .i64 x.p.n, .int .i64 x.p.r.err, .int .i64 x.p.r.seq, .int .i64 x.p.r.n, .slice x.ga x.p.r.got.length x.gc, .slice x.da x.p.r.data.length x.dc, .slice x.ra x.p.r.about.length x.rc]
def zX : Value := .agg #[.int .i64 0, .int .i64 0, .int .i64 0, .int .i64 0, .slice none 0 0, .slice none 0 0, .slice none 0 0]
theorem p_k (x : X) : E.k x.p = X.k x := rfl

/-- Rows stay where a block without cells turns. -/
def Bare (w : World) (b : Nat) : Prop := ∀ a v, w.cell? a = some v → a.block ≠ b
theorem rowS_fr {α : Type} {n : Nat} {cs : α → List Value} {w w' : World} {Q : Nat → Prop} {ao : Option Addr} {l : List α} (h : RowS n cs w ao l) (hf : Fr Q w w') (hq : ∀ a v, w.cell? a = some v → (∃ a', ao = some a' ∧ a'.block = a.block) → ¬ Q a.block) : RowS n cs w' ao l := by
  intro hl
  obtain ⟨b, off, e, hc⟩ := h hl
  refine ⟨b, off, e, fun i x hx j v hv => ?_⟩
  have h1 := hc i x hx j v hv
  have hlt := World.block_lt_of_cell? w _ h1
  rw [World.cell?_of_block (w := w) (a := ⟨b, off + i * n + j, none⟩) (hf.heap hlt (hq _ _ h1 ⟨_, e, rfl⟩))]
  exact h1
theorem rowT_fr {w w' : World} {Q : Nat → Prop} {ao : Option Addr} {l : List Bs} (h : RowT w ao l) (hf : Fr Q w w') (hq : ∀ a v, w.cell? a = some v → (∃ a', ao = some a' ∧ a'.block = a.block) → ¬ Q a.block) : RowT w' ao l := by
  intro hl
  obtain ⟨b, off, e, hc⟩ := h hl
  refine ⟨b, off, e, fun i hi => ?_⟩
  have h1 := hc i hi
  have hlt := World.block_lt_of_cell? w _ h1
  rw [World.cell?_of_block (w := w) (a := ⟨b, off + i, none⟩) (hf.heap hlt (hq _ _ h1 ⟨_, e, rfl⟩))]
  exact h1
theorem rpM_bare {w w' : World} {b : Nat} {r : Rp} {ga da ra : Option Addr} (h : RpM w r ga da ra) (hf : Fr (fun k => k = b) w w') (hb : Bare w b) : RpM w' r ga da ra :=
  ⟨rowS_fr h.got hf (fun a v hc _ => hb a v hc), rowT_fr h.data hf (fun a v hc _ => hb a v hc), rowS_fr h.about hf (fun a v hc _ => hb a v hc)⟩
/-- A reply's lists lie in blocks of F. -/
def Far (F : Nat → Prop) (ga da ra : Option Addr) : Prop := (∀ a, ga = some a → F a.block) ∧ (∀ a, da = some a → F a.block) ∧ (∀ a, ra = some a → F a.block)
theorem Far.mono {F G : Nat → Prop} {ga da ra : Option Addr} (h : Far F ga da ra) (hi : ∀ k, F k → G k) : Far G ga da ra := ⟨fun a e => hi _ (h.1 a e), fun a e => hi _ (h.2.1 a e), fun a e => hi _ (h.2.2 a e)⟩
theorem rpM_fr {w w' : World} {Q : Nat → Prop} {r : Rp} {ga da ra : Option Addr} (h : RpM w r ga da ra) (hf : Fr Q w w') (hF : Far (fun k => ¬ Q k) ga da ra) : RpM w' r ga da ra :=
  ⟨rowS_fr h.got hf (fun a v _ ⟨a', e, hb⟩ => hb ▸ hF.1 a' e), rowT_fr h.data hf (fun a v _ ⟨a', e, hb⟩ => hb ▸ hF.2.1 a' e), rowS_fr h.about hf (fun a v _ ⟨a', e, hb⟩ => hb ▸ hF.2.2 a' e)⟩
theorem Bare.below {w w' : World} {b : Nat} (h : Bare w b) (hb : Below w.heap.size w w') (hlt : b < w.heap.size) : Bare w' b := by
  rintro a v hc rfl
  refine h a v ?_ rfl
  rw [← hc]
  exact (World.cell?_of_block (w := w) (a := a) (hb.block _ hlt)).symm

abbrev Mt := Mw X.k X.v Tryz.prog 3
theorem Mt.bare {w : World} {b : Nat} {l : List X} (h : Mt w b l) : Bare w b := fun a v hc => Mw.cell h hc
theorem uI : Tryz.prog.underlying 3 = some (.int .i64) := Tryz.underlying3
theorem zA (w : World) : (zeroValue 69).run Tryz.prog w = .ok zX w := by kernel_rfl

/-- What may be a client, or a number. -/
def num (n : Int) : Prop := 1 ≤ n ∧ n ≤ 1099511627776
instance (n : Int) : Decidable (num n) := by unfold num; infer_instance
/-- Block T is a table that has this, in blocks of F. -/
structure Tx (w : World) (F : Nat → Prop) (T Mb : Nat) (xs : List X) : Prop where
  bx : Bx w T #[.map (some Mb)] 62
  m : Mt w Mb xs
  s : Srt X.k xs
  r : ∀ x ∈ xs, RpM w x.p.r x.ga x.da x.ra ∧ Cnt x.p.r ∧ Far F x.ga x.da x.ra ∧ num x.p.k ∧ num x.p.n
  ft : F T
  fm : F Mb
  len : xs.length ≤ 64
def Tb (w : World) (F : Nat → Prop) (T Mb : Nat) (l : List E) : Prop := ∃ xs : List X, xs.map X.p = l ∧ Tx w F T Mb xs
theorem Tx.fr {w w' : World} {F Q : Nat → Prop} {T Mb : Nat} {xs : List X} (h : Tx w F T Mb xs) (hf : Fr Q w w') (hq : ∀ k, F k → ¬ Q k) : Tx w' F T Mb xs :=
  ⟨(hf.heap h.bx.lt (hq _ h.ft)).trans h.bx, h.m.fr hf (hq _ h.fm), h.s, fun x hx => by
    obtain ⟨h1, h2, h3, h4⟩ := h.r x hx
    exact ⟨rpM_fr h1 hf (h3.mono hq), h2, h3, h4⟩, h.ft, h.fm, h.len⟩
theorem Tx.below {w w' : World} {F : Nat → Prop} {T Mb : Nat} {xs : List X} (h : Tx w F T Mb xs) (hb : Below w.heap.size w w') : Tx w' F T Mb xs :=
  h.fr (Q := fun _ => False) (Fr.ofBelow hb) (fun _ _ x => x)
theorem Tx.mono {w : World} {F G : Nat → Prop} {T Mb : Nat} {xs : List X} (h : Tx w F T Mb xs) (hi : ∀ k, F k → G k) : Tx w G T Mb xs :=
  ⟨h.bx, h.m, h.s, fun x hx => by obtain ⟨h1, h2, h3, h4⟩ := h.r x hx; exact ⟨h1, h2, h3.mono hi, h4⟩, hi _ h.ft, hi _ h.fm, h.len⟩
theorem Tb.fr {w w' : World} {F Q : Nat → Prop} {T Mb : Nat} {l : List E} (h : Tb w F T Mb l) (hf : Fr Q w w') (hq : ∀ k, F k → ¬ Q k) : Tb w' F T Mb l := by
  obtain ⟨xs, e, h⟩ := h
  exact ⟨xs, e, h.fr hf hq⟩
theorem Tb.below {w w' : World} {F : Nat → Prop} {T Mb : Nat} {l : List E} (h : Tb w F T Mb l) (hb : Below w.heap.size w w') : Tb w' F T Mb l := by
  obtain ⟨xs, e, h⟩ := h
  exact ⟨xs, e, h.below hb⟩
theorem Tb.mono {w : World} {F G : Nat → Prop} {T Mb : Nat} {l : List E} (h : Tb w F T Mb l) (hi : ∀ k, F k → G k) : Tb w G T Mb l := by
  obtain ⟨xs, e, h⟩ := h
  exact ⟨xs, e, h.mono hi⟩

theorem eql_nil {P : Program} (w : World) (t e : TypeId) (a : Option Addr) (l c : Nat) (h : P.underlying t = some (.slice e)) : (binOp .eql t (.slice a l c) (.slice none 0 0)).run P w = .ok (.bool a.isNone) w := by
  have h1 : ∀ d, (Op.equalIn (d + 1) t (.slice a l c) (.slice none 0 0)).run P w = .ok a.isNone w := fun d => by cases a <;> simp [Op.equalIn, run_underlying h]
  have h2 : (Op.equal t (.slice a l c) (.slice none 0 0)).run P w = .ok a.isNone w := h1 9999
  simp only [binOp]
  simp [h2]
theorem neq_map {P : Program} (w : World) (t k e : TypeId) (mo : Option Nat) (h : P.underlying t = some (.map k e)) : (binOp .neq t (.map mo) (.map none)).run P w = .ok (.bool mo.isSome) w := by
  have h1 : ∀ d, (Op.equalIn (d + 1) t (.map mo) (.map none)).run P w = .ok mo.isNone w := fun d => by cases mo <;> simp [Op.equalIn, run_underlying h]
  have h2 : (Op.equal t (.map mo) (.map none)).run P w = .ok mo.isNone w := h1 9999
  simp only [binOp]
  cases mo <;> simp [h2]
theorem info_G : (Tryz.prog.info? 43).map (fun i => (i.zero, i.size, i.bytes)) = some (some (.agg #[.int .i64 0, .string ⟨#[]⟩, .int .i64 0, .int .i64 0, .string ⟨#[]⟩, .int .i64 0]), 6, 64) := by kernel_rfl
theorem info_R : (Tryz.prog.info? 95).map (fun i => (i.zero, i.size, i.bytes)) = some (some (.agg #[.int .i64 0, .int .i64 0]), 2, 16) := by kernel_rfl
theorem info_S : (Tryz.prog.info? 9).map (fun i => (i.zero, i.size, i.bytes)) = some (some (.string ⟨#[]⟩), 1, 16) := by kernel_rfl
theorem srcT {w : World} {ao : Option Addr} {l : List Bs} (h : RowT w ao l) (c : Nat) : Src Tryz.prog 1 29 (.slice ao l.length c) l.length (T l) w := by
  by_cases h0 : 0 < l.length
  · obtain ⟨b, off, rfl, hc⟩ := h h0
    refine Src.ofSlice w Tryz.underlying29 _ _ c _ (by rw [T_length]; omega) (fun j u hj => ?_) (fun u hu => ?_)
    · have hj1 : j < l.length := by have := lt_of hj; rwa [T_length] at this
      rw [Addr.add_lit, hc j hj1]
      simp only [T, List.getElem?_map, List.getElem?_eq_getElem hj1, Option.map_some] at hj
      rw [← hj]
      simp [List.getD, List.getElem?_eq_getElem hj1]
    · simp only [T, List.mem_map] at hu
      obtain ⟨s, -, rfl⟩ := hu
      rfl
  · have e : l = [] := List.eq_nil_of_length_eq_zero (by omega)
    subst e
    cases ao with
    | none => exact Src.ofNil w Tryz.underlying29 c
    | some a => exact Src.ofSlice w Tryz.underlying29 a 0 c [] (by simp) (fun j u hj => by simp at hj) (fun u hu => by cases hu)
theorem srcG {w : World} {ao : Option Addr} {l : List Gt} (h : RowG w ao l) (c : Nat) : Src Tryz.prog 6 31 (.slice ao l.length c) l.length (Fl gC l) w := RowS.src gC_len gC_one (by decide) Tryz.underlying31 h c
theorem srcR {w : World} {ao : Option Addr} {l : List (Int × Int)} (h : RowR w ao l) (c : Nat) : Src Tryz.prog 2 32 (.slice ao l.length c) l.length (Fl rC l) w := RowS.src rC_len rC_one (by decide) Tryz.underlying32 h c

set_option maxHeartbeats 400000 in
theorem cloneG_any (w : World) (ao : Option Addr) (cap : Nat) (l : List Gt) (hr : RowG w ao l) (hl : l.length ≤ 1000000000) :
    Calls Tryz.prog 47 #[.slice ao l.length cap] w fun e w' => ∃ a' c', e = .returned (.slice a' l.length c') ∧ w'.ownsRow w.heap.size 43 6 (.slice a' l.length c') l.length (Fl gC l) ∧ Below w.heap.size w w' := by
  cases ao with
  | none =>
    have h0 : l = [] := by
      rcases Nat.eq_zero_or_pos l.length with h | h
      · exact List.eq_nil_of_length_eq_zero h
      · obtain ⟨b, off, e, _⟩ := hr h; cases e
    subst h0
    have hq := eql_nil (P := Tryz.prog) w 31 43 none 0 cap Tryz.underlying31
    simp only [Option.isNone] at hq
    go_enter Tryz.func47, Tryz.ntmps47
    go_wp2
    go_ret
    exact ⟨none, 0, rfl, by simpa [Fl, T] using World.ownsRow_nil w _ _ _, Below.refl _ _⟩
  | some a =>
    have hq := eql_nil (P := Tryz.prog) w 31 43 (some a) l.length cap Tryz.underlying31
    simp only [Option.isNone] at hq
    have hbz : l.length * 64 ≤ 140737488355328 := by omega
    have HS := mkH (srcG (hr.below ((Below.refl w.heap.size w).alloc (Nat.le_refl _) (.cells #[] 43))) cap)
    clear hr
    go_enter Tryz.func47, Tryz.ntmps47
    go_wp2_with (at_builtin; refine (wpList_append_own_src _ rfl (.tmp 5) (.tmp 6) 31 31 rfl w.heap.size 43 _ 6 64 Tryz.underlying31 info_G rfl (by decide) _ 0 [] rfl (World.ownsRow_made w #[] 0 (Nat.le_refl _) (Nat.zero_le _) rfl) _ l.length (Fl gC l) rfl HS.out ?h632 ?hby2 ?hbs2 ?_))
    case h632 => unfold maxLen; omega
    case hby2 => omega
    case hbs2 => simp
    intro v2 w2 hown2 hgrow2
    have hbel := below_own (World.ownsRow_made (e := 43) (size := 6) w #[] 0 (Nat.le_refl _) (Nat.zero_le _) rfl) hgrow2 ((Below.refl w.heap.size w).alloc (Nat.le_refl _) (.cells #[] 43)) (by simp)
    have hown3 : w2.ownsRow w.heap.size 43 6 v2 l.length (Fl gC l) := by simpa using hown2
    clear hown2 hgrow2 HS
    obtain ⟨a', c', rfl⟩ := own_form hown3
    go_wp2
    go_ret
    exact ⟨a', c', rfl, hown3, hbel⟩

set_option maxHeartbeats 400000 in
theorem cloneT_any (w : World) (ao : Option Addr) (cap : Nat) (l : List Bs) (hr : RowT w ao l) (hl : l.length ≤ 1000000000) :
    Calls Tryz.prog 48 #[.slice ao l.length cap] w fun e w' => ∃ a' c', e = .returned (.slice a' l.length c') ∧ w'.ownsRow w.heap.size 9 1 (.slice a' l.length c') l.length (T l) ∧ Below w.heap.size w w' := by
  cases ao with
  | none =>
    have h0 : l = [] := by
      rcases Nat.eq_zero_or_pos l.length with h | h
      · exact List.eq_nil_of_length_eq_zero h
      · obtain ⟨b, off, e, _⟩ := hr h; cases e
    subst h0
    have hq := eql_nil (P := Tryz.prog) w 29 9 none 0 cap Tryz.underlying29
    simp only [Option.isNone] at hq
    go_enter Tryz.func48, Tryz.ntmps48
    go_wp2
    go_ret
    exact ⟨none, 0, rfl, by simpa [Fl, T] using World.ownsRow_nil w _ _ _, Below.refl _ _⟩
  | some a =>
    have hq := eql_nil (P := Tryz.prog) w 29 9 (some a) l.length cap Tryz.underlying29
    simp only [Option.isNone] at hq
    have hbz : l.length * 16 ≤ 140737488355328 := by omega
    have HS := mkH (srcT (hr.below ((Below.refl w.heap.size w).alloc (Nat.le_refl _) (.cells #[] 9))) cap)
    clear hr
    go_enter Tryz.func48, Tryz.ntmps48
    go_wp2_with (at_builtin; refine (wpList_append_own_src _ rfl (.tmp 5) (.tmp 6) 29 29 rfl w.heap.size 9 _ 1 16 Tryz.underlying29 info_S rfl (by decide) _ 0 [] rfl (World.ownsRow_made w #[] 0 (Nat.le_refl _) (Nat.zero_le _) rfl) _ l.length (T l) rfl HS.out ?h632 ?hby2 ?hbs2 ?_))
    case h632 => unfold maxLen; omega
    case hby2 => omega
    case hbs2 => simp
    intro v2 w2 hown2 hgrow2
    have hbel := below_own (World.ownsRow_made (e := 9) (size := 1) w #[] 0 (Nat.le_refl _) (Nat.zero_le _) rfl) hgrow2 ((Below.refl w.heap.size w).alloc (Nat.le_refl _) (.cells #[] 9)) (by simp)
    have hown3 : w2.ownsRow w.heap.size 9 1 v2 l.length (T l) := by simpa using hown2
    clear hown2 hgrow2 HS
    obtain ⟨a', c', rfl⟩ := own_form hown3
    go_wp2
    go_ret
    exact ⟨a', c', rfl, hown3, hbel⟩

set_option maxHeartbeats 400000 in
theorem cloneR_any (w : World) (ao : Option Addr) (cap : Nat) (l : List (Int × Int)) (hr : RowR w ao l) (hl : l.length ≤ 1000000000) :
    Calls Tryz.prog 49 #[.slice ao l.length cap] w fun e w' => ∃ a' c', e = .returned (.slice a' l.length c') ∧ w'.ownsRow w.heap.size 95 2 (.slice a' l.length c') l.length (Fl rC l) ∧ Below w.heap.size w w' := by
  cases ao with
  | none =>
    have h0 : l = [] := by
      rcases Nat.eq_zero_or_pos l.length with h | h
      · exact List.eq_nil_of_length_eq_zero h
      · obtain ⟨b, off, e, _⟩ := hr h; cases e
    subst h0
    have hq := eql_nil (P := Tryz.prog) w 32 95 none 0 cap Tryz.underlying32
    simp only [Option.isNone] at hq
    go_enter Tryz.func49, Tryz.ntmps49
    go_wp2
    go_ret
    exact ⟨none, 0, rfl, by simpa [Fl, T] using World.ownsRow_nil w _ _ _, Below.refl _ _⟩
  | some a =>
    have hq := eql_nil (P := Tryz.prog) w 32 95 (some a) l.length cap Tryz.underlying32
    simp only [Option.isNone] at hq
    have hbz : l.length * 16 ≤ 140737488355328 := by omega
    have HS := mkH (srcR (hr.below ((Below.refl w.heap.size w).alloc (Nat.le_refl _) (.cells #[] 95))) cap)
    clear hr
    go_enter Tryz.func49, Tryz.ntmps49
    go_wp2_with (at_builtin; refine (wpList_append_own_src _ rfl (.tmp 5) (.tmp 6) 32 32 rfl w.heap.size 95 _ 2 16 Tryz.underlying32 info_R rfl (by decide) _ 0 [] rfl (World.ownsRow_made w #[] 0 (Nat.le_refl _) (Nat.zero_le _) rfl) _ l.length (Fl rC l) rfl HS.out ?h632 ?hby2 ?hbs2 ?_))
    case h632 => unfold maxLen; omega
    case hby2 => omega
    case hbs2 => simp
    intro v2 w2 hown2 hgrow2
    have hbel := below_own (World.ownsRow_made (e := 95) (size := 2) w #[] 0 (Nat.le_refl _) (Nat.zero_le _) rfl) hgrow2 ((Below.refl w.heap.size w).alloc (Nat.le_refl _) (.cells #[] 95)) (by simp)
    have hown3 : w2.ownsRow w.heap.size 95 2 v2 l.length (Fl rC l) := by simpa using hown2
    clear hown2 hgrow2 HS
    obtain ⟨a', c', rfl⟩ := own_form hown3
    go_wp2
    go_ret
    exact ⟨a', c', rfl, hown3, hbel⟩
end Go.Proofs.YtenkgpfeifflnaaGreat.Sa
