/-
  A map from texts to numbers in memory: what it has, by its keys; its laws in plain words.
-/
import Derived.Test.YtcpmaddleleblaaDoorGpSt
import Derived.Maps.RangeWalk
import Derived.Maps.Ext
import Derived.WideKeyEntry
namespace Go.Proofs.YtcpmaddleleblaaDoor.Gmp
open Go.RowKit Kt Gf Gp Gr Gk Ga Gs Gb Gg Gm Gst Go.Maps Go.ChangeMaps
set_option linter.unusedVariables false
set_option maxRecDepth 20000

/-- How a number in it reads: as itself. -/
def vE (v : Value) : Option (DataW Value × List MemPlace) := some (.held v, [])
theorem vE_is {v u : Value} {ps : List MemPlace} (h : vE v = some (.held u, ps)) : v = u := by
  simp only [vE, Option.some.injEq, Prod.mk.injEq, DataW.held.injEq] at h
  exact h.1
def kS (s : ByteArray) : Lit := .string s.data.toList
theorem kS_inj {a b : ByteArray} (h : kS a = kS b) : a = b := by
  simp only [kS, Lit.string.injEq] at h
  cases a; cases b
  simp only at h
  rw [ByteArray.mk.injEq]
  exact Array.ext' h
theorem kS_key (a : ByteArray) : WideAt.IsKeyLit (kS a) := trivial
abbrev Sm' := ByteArray → Option Int
def upd (S : Sm') (t : ByteArray) (v : Int) : Sm' := fun s => if s = t then some v else S s
def Rd (D : DataW Value) (S : Sm') : Prop := IsMap D ∧ ∀ s, Maps.has D (kS s) = (S s).isSome ∧ ∀ v, S s = some v → ∀ z, D.atKey (kS s) z = .held (.int .i64 v)
/-- Block b is a map that has this. -/
def Mp (w : World) (b n : Nat) (S : Sm') : Prop := ∃ D, w.ownsMap Tryd.prog 9 vE b n D ∧ Rd D S
theorem law : Keyed Tryd.prog 9 := string_keyed Tryd.underlying9
theorem hkey {s : ByteArray} (h : s.size ≤ maxLen) : keyOf Tryd.prog 9 (.string s) = some (kS s) := Go.WideMaps.keyOf_string_mk Tryd.underlying9 h
theorem zeroI (w : World) : (zeroValue 3).run Tryd.prog w = .ok (.int .i64 0) w := by kernel_rfl
theorem Mp.fr {w w' : World} {Q : Nat → Prop} {b n : Nat} {S : Sm'} (h : Mp w b n S) (hf : Fr Q w w') (hq : ¬ Q b) : Mp w' b n S := by
  obtain ⟨D, ho, hr⟩ := h
  have hlt := ho.lt
  obtain ⟨es, clock, hb, r⟩ := ho
  exact ⟨D, ⟨es, clock, (hf.heap hlt hq).trans hb, r⟩, hr⟩
theorem Mp.below {w w' : World} {b n : Nat} {S : Sm'} (h : Mp w b n S) (hb : Below w.heap.size w w') : Mp w' b n S := h.fr (Q := fun _ => False) (Fr.ofBelow hb) (fun x => x)
theorem Mp.made {w : World} {b : Nat} (h : w.heap[b]? = some (.map #[] 0)) : Mp w b 0 (fun _ => none) :=
  ⟨.map [], ⟨#[], 0, h, ⟨by simp, MapKept.stamped_empty 0, by simp⟩, Nat.le_refl _, rfl⟩, isMap_empty, fun s => ⟨rfl, fun v hv => by cases hv⟩⟩
theorem Mp.ne {w : World} {b n B : Nat} {S : Sm'} {cs : Array Value} {t : TypeId} (h : Mp w b n S) (hB : Bx w B cs t) : b ≠ B := by
  obtain ⟨D, ⟨es, clock, hb, -⟩, -⟩ := h
  rintro rfl
  unfold Bx at hB
  rw [hb] at hB
  cases hB
/-- 'v, ok := m[k]'. -/
theorem look2 {W : World} {b n : Nat} {S : Sm'} (h : Mp W b n S) {s : ByteArray} (hs : s.size ≤ maxLen) : ∃ v : Int, (Instr.lookup 54 (.map (some b)) (.string s) true).run Tryd.prog W = .ok (.tuple #[.int .i64 v, .bool (S s).isSome]) W ∧ ∀ u, S s = some u → v = u := by
  obtain ⟨D, ho, hm, hr⟩ := h
  obtain ⟨v, ps, hrun, hv⟩ := World.ownsMap.look_ok ho law Tryd.underlying54 (zeroI W) (rfl : vE (.int .i64 0) = some (.held (.int .i64 0), [])) (hkey hs)
  obtain ⟨r1, r2⟩ := hr s
  rw [r1] at hrun
  cases hS : S s with
  | none =>
    rw [hS] at hrun r1
    rw [atKey_of_not_has r1] at hv
    have := vE_is hv
    subst this
    exact ⟨0, hrun, fun u hu => by cases hu⟩
  | some u =>
    rw [hS] at hrun
    rw [r2 u hS] at hv
    have := vE_is hv
    subst this
    exact ⟨u, hrun, fun z hz => by cases hz; rfl⟩
/-- 'm[k]' of a key that is in it. -/
theorem look1 {W : World} {b n : Nat} {S : Sm'} (h : Mp W b n S) {s : ByteArray} (hs : s.size ≤ maxLen) {u : Int} (hu : S s = some u) : (Instr.lookup 54 (.map (some b)) (.string s) false).run Tryd.prog W = .ok (.int .i64 u) W := by
  obtain ⟨D, ho, hm, hr⟩ := h
  obtain ⟨v, ps, hrun, hv⟩ := World.ownsMap.lookup ho law Tryd.underlying54 (zeroI W) (rfl : vE (.int .i64 0) = some (.held (.int .i64 0), [])) (hkey hs)
  rw [(hr s).2 u hu] at hv
  have := vE_is hv
  subst this
  exact hrun
theorem Rd.put {D : DataW Value} {S : Sm'} (h : Rd D S) (s : ByteArray) (v : Int) : Rd (D.put (kS s) (.held (.int .i64 v))) (upd S s v) := by
  refine ⟨h.1.put _ _, fun t => ?_⟩
  by_cases ht : t = s
  · subst ht
    refine ⟨by rw [has_put_same h.1 (kS_key t)]; simp [upd], fun u hu z => ?_⟩
    rw [atKey_put_same h.1 (kS_key t)]
    simp only [upd, if_true, Option.some.injEq] at hu
    rw [hu]
  · have hne : kS t ≠ kS s := fun e => ht (kS_inj e)
    refine ⟨by rw [has_put_other hne, (h.2 t).1]; simp [upd, ht], fun u hu z => ?_⟩
    rw [atKey_put_other hne]
    simp only [upd, ht, if_false] at hu
    exact (h.2 t).2 u hu z
theorem fr_block {W : World} {b : Nat} {es : Array MapEntry} {c : Nat} (hb : W.heap[b]? = some (.map es c)) (o : Obj) : Fr (fun k => k = b) W (setBlock W b o) :=
  ⟨rfl, rfl, rfl, by simp [setBlock], fun k hk hn => heap_setBlock_other hb o hn⟩
/-- 'm[k] = v' in two steps: the entry is made, then it is stored. -/
theorem entry {W : World} {b n : Nat} {S : Sm'} (h : Mp W b n S) (hn : n < maxLen) {s : ByteArray} (hs : s.size ≤ maxLen) (val : Int) :
    ∃ (v0 st : Value) (W1 W2 : World), (Instr.mapEntry 54 (.map (some b)) (.string s)).run Tryd.prog W = .ok (.tuple #[v0, st]) W1 ∧ Fr (fun k => k = b) W W1 ∧ (∃ es c, W1.heap[b]? = some (.map es c)) ∧
      (Instr.entryStore 54 (.map (some b)) st (.int .i64 val)).run Tryd.prog W1 = .ok () W2 ∧ Fr (fun k => k = b) W1 W2 ∧ Mp W2 b (n + 1) (upd S s val) := by
  obtain ⟨D, ho, hr⟩ := h
  obtain ⟨w5, hrun, hown5, hturn⟩ := World.ownsMap.store ho law Tryd.underlying54 hn (hkey hs) (rfl : vE (.int .i64 val) = some (.held (.int .i64 val), []))
  obtain ⟨es, clock, hb, F, hsz, hD⟩ := ho
  obtain ⟨v0, st, es1, clock1, h1, -, h2⟩ := Go.WideElems.entry_then_store (Go.WideMaps.string_law Tryd.underlying9) Tryd.underlying54 zeroI hb F (hkey hs)
  have hb1 : (setBlock W b (.map es1 clock1)).heap[b]? = some (.map es1 clock1) := heap_setBlock_same hb _
  obtain ⟨es', clock', h3, h4⟩ := h2 (setBlock W b (.map es1 clock1)) (.int .i64 val) hb1
  rw [h4] at hrun
  cases hrun
  obtain ⟨es2, clock2, hb2, r2⟩ := hown5
  rw [heap_setBlock_same hb] at hb2
  cases hb2
  exact ⟨v0, goInt st, _, _, h1, fr_block hb _, ⟨_, _, hb1⟩, h3, fr_block hb1 _, _, ⟨es', clock', heap_setBlock_same hb1 _, r2⟩, hr.put s val⟩

section
variable {P : Program} {ops : Array Oper} {o : Oper} {a : Act} {w w' : World} {K : Act → World → Prop} {Q : Exit → Act → World → Prop} {E : Prop}
theorem step_entry (hg : o.guard = none) (t : TypeId) (m k : Operand) (ho : o.op = .mapEntry t m k) (mv kv v : Value) (hm : a.eval m = mv) (hk : a.eval k = kv) (hr : (Instr.mapEntry t mv kv).run P w = .ok v w') (hK : K (a.put o.dst v) w') :
    if Region.wanted o (yielded ops a.tmps) = true then Oper.wp P o a w K Q else E := by
  have hw : Region.wanted o (yielded ops a.tmps) = true := by simp [Region.wanted, hg]
  rw [if_pos hw]
  unfold Oper.wp execOp
  simp only [ho, hm, hk, Sem.run_bind, Result.andThen_ok, hr]
  exact hK
theorem step_estore (hg : o.guard = none) (t : TypeId) (m s x : Operand) (ho : o.op = .entryStore t m s x) (mv sv xv : Value) (hm : a.eval m = mv) (hs : a.eval s = sv) (hx : a.eval x = xv) (hr : (Instr.entryStore t mv sv xv).run P w = .ok () w') (hK : K (a.put o.dst undef) w') :
    if Region.wanted o (yielded ops a.tmps) = true then Oper.wp P o a w K Q else E := by
  have hw : Region.wanted o (yielded ops a.tmps) = true := by simp [Region.wanted, hg]
  rw [if_pos hw]
  unfold Oper.wp execOp
  simp only [ho, hm, hs, hx, Sem.run_bind, Result.andThen_ok, hr]
  exact hK
end
/-- A row lies in no map's block. -/
theorem row_map {α : Type} {n : Nat} {cs : α → List Value} {W : World} {ao : Option Addr} {l : List α} (h : RowS n cs W ao l) (hl : 0 < l.length) (h0 : ∀ x, 0 < (cs x).length) {b c : Nat} {es : Array MapEntry} (hb : W.heap[b]? = some (.map es c)) : ∀ a, ao = some a → a.block ≠ b := by
  obtain ⟨g, off, rfl, hc⟩ := h hl
  rintro a ha rfl
  cases ha
  obtain ⟨x, hx⟩ := some_of hl
  obtain ⟨v, hv⟩ := some_of (h0 x)
  have := hc 0 x hx 0 v hv
  simp [World.cell?, hb] at this
theorem syMap {w0 W W' : World} {B : Nat} {g : G} {now : Int} {ka : Option Addr} {kc : Nat} {ma : Option Addr} {mc b6 b7 b : Nat} {c : Nat} {es : Array MapEntry} (h : Sy w0 W B g now [] ka kc ma mc none 0 b6 b7) (hb : W.heap[b]? = some (.map es c)) (hF : Fr (fun k => k = b) W W') (hw : w0.heap.size ≤ b) : Sy w0 W' B g now [] ka kc ma mc none 0 b6 b7 := by
  have hX : b ≠ B := by
    rintro rfl
    have := h.b
    unfold Bx at this
    rw [hb] at this
    cases this
  refine syFr h hF hX (by simp [Value.ownBlock]) ?_ hw
  refine ⟨?_, ?_, h.l.kl, h.l.ml, h.l.kb, h.l.mb⟩
  · intro hl
    exact Gj.RowS.fr h.l.k hF (fun a ha => row_map h.l.k hl (fun x => by rw [kC_len]; decide) hb a ha) hl
  · intro hl
    exact Gj.RowS.fr h.l.m hF (fun a ha => row_map h.l.m hl (fun x => by rw [mC_len]; decide) hb a ha) hl
theorem glMap {W W' : World} {g : G} {ka : Option Addr} {kc : Nat} {ma : Option Addr} {mc b : Nat} {c : Nat} {es : Array MapEntry} (h : Gl W g ka kc ma mc) (hb : W.heap[b]? = some (.map es c)) (hF : Fr (fun k => k = b) W W') : Gl W' g ka kc ma mc := by
  refine ⟨?_, ?_, h.kl, h.ml, h.kb, h.mb⟩
  · intro hl
    exact Gj.RowS.fr h.k hF (fun a ha => row_map h.k hl (fun x => by rw [kC_len]; decide) hb a ha) hl
  · intro hl
    exact Gj.RowS.fr h.m hF (fun a ha => row_map h.m hl (fun x => by rw [mC_len]; decide) hb a ha) hl
theorem Mp.mono {W : World} {b n n2 : Nat} {S : Sm'} (h : Mp W b n S) (hn : n ≤ n2) : Mp W b n2 S := by
  obtain ⟨D, ho, hr⟩ := h
  exact ⟨D, ho.mono hn, hr⟩
theorem bxMap {W W' : World} {B b c : Nat} {cs : Array Value} {t : TypeId} {es : Array MapEntry} (h : Bx W B cs t) (hb : W.heap[b]? = some (.map es c)) (hF : Fr (fun k => k = b) W W') : Bx W' B cs t := by
  refine h.fr hF ?_
  rintro rfl
  unfold Bx at h
  rw [hb] at h
  cases h
theorem Mp.block {W : World} {b n : Nat} {S : Sm'} (h : Mp W b n S) : ∃ es c, W.heap[b]? = some (.map es c) := by
  obtain ⟨D, ⟨es, clock, hb, -⟩, -⟩ := h
  exact ⟨es, clock, hb⟩
end Go.Proofs.YtcpmaddleleblaaDoor.Gmp
