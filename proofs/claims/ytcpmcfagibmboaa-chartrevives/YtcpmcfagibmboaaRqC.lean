/-
  KitS NtR ChMa ChKk Few Reads2 AddI AddT ChMd ChMn, joined by mrg.py.
-/
import Derived.Test.YtcpmcfagibmboaaKit2
import Derived.Test.YtcpmcfagibmboaaRows
import Derived.Test.YtcpmcfagibmboaaGpK
import Derived.Test.YtcpmcfagibmboaaGpF
import Derived.Test.YtcpmcfagibmboaaRqB
import Derived.Test.YtcpmcfagibmboaaChKh
import Derived.Test.YtcpmcfagibmboaaRqA
import Derived.Test.YtcpmcfagibmboaaReads
import Derived.Test.YtcpmcfagibmboaaWrites
import Derived.Test.YtcpmcfagibmboaaTexts

namespace Go.Proofs.Ytcpmcfagibmboaa.Ks
open Go.RowKit Kt
set_option linter.unusedVariables false

theorem step_append_own_src {P : Program} {ops : Array Oper} {o : Oper} {a : Act} {w : World} {K : Act → World → Prop} {Q : Exit → Act → World → Prop} {E : Prop}
    (hg : o.guard = none) (s x : Operand) (t tx : TypeId) (hop : o.op = Op.call { callee := Callee.builtin Builtin.append, args := #[s, x], argTypes := #[t, tx] })
    (base : Nat) (e : TypeId) (z : Value) (size bytes : Nat) (ht : P.underlying t = some (.slice e)) (hinfo : (P.info? e).map (fun i => (i.zero, i.size, i.bytes)) = some (some z, size, bytes))
    (hzs : z.cells.size = size) (hsz : 0 < size)
    (v : Value) (n : Nat) (xs : List Value) (hs : a.eval s = v) (hown : w.ownsRow base e size v n xs)
    (xv : Value) (m : Nat) (news : List Value) (hx : a.eval x = xv) (hsrc : Src P size tx xv m news w)
    (h63 : n + m ≤ maxLen) (hbytes : (n + m) * bytes ≤ 140737488355328) (hbase : base ≤ w.heap.size)
    (hK : ∀ v' w', w'.ownsRow base e size v' (n + m) (xs ++ news) → w.grownBy w' v.ownBlock → K (a.put o.dst v') w') :
    if Region.wanted o (yielded ops a.tmps) = true then Oper.wp P o a w K Q else E := by
  obtain ⟨i, hi, hz, hsize, hby⟩ := info_parts hinfo
  have hw : Region.wanted o (yielded ops a.tmps) = true := by simp [Region.wanted, hg]
  rw [if_pos hw]
  obtain ⟨v', w', hr, h2, h3⟩ := run_append_own_src (P := P) w base t tx o.type e i z size bytes ht hi hz hsize hby hzs hsz v n xs hown xv m news hsrc h63 hbytes hbase
  unfold Oper.wp
  simp [execOp, hop, resolve, invoke, builtin, hs, hx, hr, Result.andThen]
  exact hK v' w' h2 h3
/-- A guard: this step is an append of these operands. -/
theorem atApp {P : Program} {ops : Array Oper} {o : Oper} {a : Act} {w : World} {K : Act → World → Prop} {Q : Exit → Act → World → Prop} {E : Prop} (s x : Operand) (t tx : TypeId)
    (hop : o.op = Op.call { callee := Callee.builtin Builtin.append, args := #[s, x], argTypes := #[t, tx] }) (h : if Region.wanted o (yielded ops a.tmps) = true then Oper.wp P o a w K Q else E) :
    if Region.wanted o (yielded ops a.tmps) = true then Oper.wp P o a w K Q else E := h
end Go.Proofs.Ytcpmcfagibmboaa.Ks

namespace Go.Proofs.Ytcpmcfagibmboaa.Nr
open Go.RowKit Kt Gf Gk
set_option linter.unusedVariables false
set_option linter.unusedSimpArgs false
set_option maxRecDepth 20000

theorem some_of {α : Type} {l : List α} {i : Nat} (h : i < l.length) : ∃ r, l[i]? = some r := ⟨l[i], List.getElem?_eq_getElem h⟩
theorem lt_of {α : Type} {l : List α} {i : Nat} {x : α} (h : l[i]? = some x) : i < l.length := by
  rcases Nat.lt_or_ge i l.length with h1 | h1
  · exact h1
  · rw [List.getElem?_eq_none h1] at h; cases h

section
variable {α : Type} (n : Nat) (cs : α → List Value)
def Fl (l : List α) : List Value := l.flatMap cs
variable {n} {cs} (hn : ∀ x, (cs x).length = n)
include hn
theorem Fl_length (l : List α) : (Fl cs l).length = l.length * n := by
  induction l with
  | nil => simp [Fl]
  | cons r t ih =>
    have e : Fl cs (r :: t) = cs r ++ Fl cs t := rfl
    rw [e, List.length_append, hn, ih, List.length_cons, Nat.add_mul]; omega
theorem Fl_at (l : List α) : ∀ (i : Nat) (x : α), l[i]? = some x → ∀ j, j < n → (Fl cs l)[i * n + j]? = (cs x)[j]? := by
  induction l with
  | nil => intro i r h; cases h
  | cons r t ih =>
    intro i x h j hj
    have e : Fl cs (r :: t) = cs r ++ Fl cs t := rfl
    cases i with
    | zero =>
      simp at h; subst h
      rw [e, Nat.zero_mul, Nat.zero_add, List.getElem?_append_left (by rw [hn]; exact hj)]
    | succ i =>
      rw [e, List.getElem?_append_right (by rw [hn, Nat.add_mul]; omega), hn, show (i + 1) * n + j - n = i * n + j by rw [Nat.add_mul]; omega]
      exact ih i x (by simpa using h) j hj
omit hn in
theorem Fl_one (h1 : ∀ x, ∀ u ∈ cs x, u.oneCell' = true) (l : List α) : ∀ u ∈ Fl cs l, u.oneCell' = true := by
  intro u hu
  obtain ⟨x, -, h⟩ := List.mem_flatMap.1 hu
  exact h1 x u h
omit hn in
theorem Fl_append (a b : List α) : Fl cs (a ++ b) = Fl cs a ++ Fl cs b := by simp [Fl]
omit hn in
theorem Fl_single (x : α) : Fl cs [x] = cs x := by simp [Fl]

omit hn in
variable (n cs) in
/-- A slice of structs, as it is read. -/
def RowS (w : World) (ao : Option Addr) (l : List α) : Prop :=
  0 < l.length → ∃ b off, ao = some ⟨b, off, none⟩ ∧ ∀ i x, l[i]? = some x → ∀ j v, (cs x)[j]? = some v → w.cell? ⟨b, off + i * n + j, none⟩ = some v
omit hn
theorem RowS.nil (w : World) (ao : Option Addr) : RowS n cs w ao [] := fun h => by simp at h
theorem RowS.below {w w' : World} {ao : Option Addr} {l : List α} (h : RowS n cs w ao l) (hb : Below w.heap.size w w') : RowS n cs w' ao l := by
  intro hl
  obtain ⟨b, off, e, hc⟩ := h hl
  refine ⟨b, off, e, fun i x hx j v hv => ?_⟩
  have h1 := hc i x hx j v hv
  rw [hb.cell (p := ⟨b, off + i * n + j, none⟩) (World.block_lt_of_cell? w _ h1)]
  exact h1
theorem RowS.take {w : World} {ao : Option Addr} {l : List α} (h : RowS n cs w ao l) (k : Nat) : RowS n cs w ao (l.take k) := by
  intro hl
  rw [List.length_take] at hl
  obtain ⟨b, off, e, hc⟩ := h (by omega)
  exact ⟨b, off, e, fun i r hr => hc i r (by rw [List.getElem?_take] at hr; split at hr; exact hr; cases hr)⟩
theorem RowS.block {w : World} {ao : Option Addr} {l : List α} (h : RowS n cs w ao l) (hl : 0 < l.length) (h0 : ∀ x, 0 < (cs x).length) : ∀ a, ao = some a → a.block < w.heap.size := by
  obtain ⟨b, off, rfl, hc⟩ := h hl
  intro a ha
  injection ha with ha
  subst ha
  obtain ⟨x, hx⟩ := some_of hl
  obtain ⟨v, hv⟩ := some_of (h0 x)
  exact World.block_lt_of_cell? w ⟨b, off + 0 * n + 0, none⟩ (hc 0 x hx 0 v hv)
theorem RowS.setRow {w : World} {ao : Option Addr} {l : List α} (h : RowS n cs w ao l) {g : Nat} (hp : ∀ a, ao = some a → a.block ≠ g) (ds : Array Value) : RowS n cs (w.setRow g ds) ao l := by
  intro hl
  obtain ⟨b, off, rfl, hc⟩ := h hl
  refine ⟨b, off, rfl, fun i x hx j v hv => ?_⟩
  rw [World.cell?_of_block (w := w) (a := ⟨b, off + i * n + j, none⟩) (setRow_other w g b ds (hp _ rfl))]
  exact hc i x hx j v hv
theorem RowS.setCell {w : World} {ao : Option Addr} {l : List α} (h : RowS n cs w ao l) {p : Addr} (hp : ∀ a, ao = some a → a.block ≠ p.block) (v : Value) : RowS n cs (w.setCell p v) ao l := by
  intro hl
  obtain ⟨b, off, rfl, hc⟩ := h hl
  refine ⟨b, off, rfl, fun i x hx j u hu => ?_⟩
  rw [World.cell?_of_block (w := w) (a := ⟨b, off + i * n + j, none⟩) (heap_setCell_other w p b v (hp _ rfl))]
  exact hc i x hx j u hu
include hn
theorem RowS.src (h1 : ∀ x, ∀ u ∈ cs x, u.oneCell' = true) (hpos : 0 < n) {P : Program} {w : World} {tx e' : TypeId} (hk : P.underlying tx = some (.slice e')) {ao : Option Addr} {l : List α} (h : RowS n cs w ao l) (c : Nat) :
    Src P n tx (.slice ao l.length c) l.length (Fl cs l) w := by
  by_cases h0 : 0 < l.length
  · obtain ⟨b, off, rfl, hc⟩ := h h0
    refine Src.ofSlice w hk _ _ c _ (Fl_length hn l) (fun j u hj => ?_) (Fl_one h1 l)
    have hj1 : j < l.length * n := by have := lt_of hj; rwa [Fl_length hn] at this
    have hq : j / n < l.length := Nat.div_lt_of_lt_mul (by rw [Nat.mul_comm]; exact hj1)
    obtain ⟨x, hx⟩ := some_of hq
    have e : j = j / n * n + j % n := by have := Nat.div_add_mod j n; rw [Nat.mul_comm] at this; exact this.symm
    have hm : j % n < n := Nat.mod_lt _ hpos
    rw [e, Fl_at hn l _ x hx _ hm] at hj
    rw [Addr.add_lit, e, ← Nat.add_assoc]
    exact hc _ x hx _ u hj
  · have e : l = [] := List.eq_nil_of_length_eq_zero (by omega)
    subst e
    cases ao with
    | none => exact Src.ofNil w hk c
    | some a => exact Src.ofSlice w hk a 0 c [] (by simp) (fun j u hj => by simp at hj) (fun u hu => by cases hu)
/-- A row that the call owns, as it is read. -/
theorem RowS.own {w : World} {base m cap : Nat} {e : TypeId} {ao : Option Addr} {l : List α} (h : w.ownsRow base e n (.slice ao m cap) l.length (Fl cs l)) : RowS n cs w ao l := by
  intro hl
  rcases h.2 with ⟨e1, e2⟩ | ⟨g, c, cur, e1, _⟩
  · omega
  · simp only [Value.slice.injEq] at e1
    obtain ⟨rfl, rfl, rfl⟩ := e1
    refine ⟨g, 0, rfl, fun i x hx j v hv => ?_⟩
    have hi := lt_of hx
    have hj : j < n := by have := lt_of hv; rwa [hn] at this
    have hb : i * n + j < l.length * n := by
      have : (i + 1) * n ≤ l.length * n := Nat.mul_le_mul_right n hi
      rw [Nat.add_mul] at this; omega
    have h0 := World.ownsRow.cellAt h (i * n + j) hb
    rw [Fl_at hn l i x hx j hj, hv] at h0
    rw [Nat.zero_add]
    exact h0
end

theorem own_below {w w' : World} {base e size n : Nat} {v : Value} {xs : List Value} (h : w.ownsRow base e size v n xs) (hb : Below w.heap.size w w') : w'.ownsRow base e size v n xs := by
  refine ⟨h.1, ?_⟩
  rcases h.2 with h1 | ⟨g, cap, cur, e1, e2, e3, e4⟩
  · exact .inl h1
  · have hlt : g < w.heap.size := (Array.getElem?_eq_some_iff.1 e3).1
    exact .inr ⟨g, cap, cur, e1, e2, by rw [hb.block g hlt]; exact e3, e4⟩
theorem own_fr {w w' : World} {Q : Nat → Prop} {base e size n : Nat} {v : Value} {xs : List Value} (h : w.ownsRow base e size v n xs) (hf : Fr Q w w') (hq : ∀ k, v.ownBlock = some k → ¬ Q k) : w'.ownsRow base e size v n xs := by
  refine ⟨h.1, ?_⟩
  rcases h.2 with h1 | ⟨g, cap, cur, e1, e2, e3, e4⟩
  · exact .inl h1
  · have hlt : g < w.heap.size := (Array.getElem?_eq_some_iff.1 e3).1
    exact .inr ⟨g, cap, cur, e1, e2, by rw [hf.heap hlt (hq g (by rw [e1]; rfl))]; exact e3, e4⟩
theorem own_mono {w : World} {B B' e size n : Nat} {v : Value} {xs : List Value} (h : w.ownsRow B e size v n xs) (hB : B' ≤ B) : w.ownsRow B' e size v n xs := by
  refine ⟨h.1, ?_⟩
  rcases h.2 with h1 | ⟨g, cap, cur, e1, e2, e3⟩
  · exact .inl h1
  · exact .inr ⟨g, cap, cur, e1, by omega, e3⟩
/-- Two rows of different kinds lie apart. -/
theorem own_kinds {w : World} {b1 b2 s1 s2 n1 n2 e1 e2 : Nat} {v1 v2 : Value} {x1 x2 : List Value} (h1 : w.ownsRow b1 e1 s1 v1 n1 x1) (h2 : w.ownsRow b2 e2 s2 v2 n2 x2) (hne : e1 ≠ e2) : ∀ k, v1.ownBlock = some k → v2.ownBlock ≠ some k := fun k hk hk2 => by
  rcases h1.2 with ⟨rfl, -⟩ | ⟨g, cap, cur, rfl, -, hg, -⟩
  · simp [Value.ownBlock] at hk
  · rcases h2.2 with ⟨rfl, -⟩ | ⟨g2, cap2, cur2, rfl, -, hg2, -⟩
    · simp [Value.ownBlock] at hk2
    · simp only [Value.ownBlock, Option.some.injEq] at hk hk2
      subst hk
      subst hk2
      rw [hg] at hg2
      simp only [Option.some.injEq, Obj.cells.injEq] at hg2
      exact hne hg2.2.1
theorem cell_new_at (W : World) (cs : Array Value) (t : TypeId) (j : Nat) (v : Value) (h : cs[j]? = some v) : (W.alloc (.cells cs t)).cell? ⟨W.heap.size, j, none⟩ = some v := by
  have h1 := heap_alloc_new W (.cells cs t)
  simp only [World.cell?, h1]; exact h
section
variable {α : Type} {n : Nat} {cs : α → List Value} (hn : ∀ x, (cs x).length = n)
include hn
/-- One new struct, laid in a block of its own. -/
theorem src_new {P : Program} (h1 : ∀ x, ∀ u ∈ cs x, u.oneCell' = true) (hpos : 0 < n) {tx e' : TypeId} (hk : P.underlying tx = some (.slice e')) (w : World) (x : α) (t : TypeId) :
    Src P n tx (.slice (some ⟨w.heap.size, 0, none⟩) 1 1) 1 (Fl cs [x]) (w.alloc (.cells (cs x).toArray t)) := by
  have hr : RowS n cs (w.alloc (.cells (cs x).toArray t)) (some ⟨w.heap.size, 0, none⟩) [x] := by
    intro _
    refine ⟨w.heap.size, 0, rfl, fun i y hy j v hv => ?_⟩
    have hi := lt_of hy
    simp at hi
    subst hi
    simp at hy
    subst hy
    simp only [Nat.zero_mul, Nat.zero_add]
    exact cell_new_at w _ t j v (by simpa using hv)
  exact hr.src hn h1 hpos hk 1
/-- New structs, laid in a block of their own. -/
theorem RowS.new (W : World) (ds : Array Value) (t : TypeId) (l : List α) (h : ds = (Fl cs l).toArray) : RowS n cs (W.alloc (.cells ds t)) (some ⟨W.heap.size, 0, none⟩) l := by
  intro _
  refine ⟨W.heap.size, 0, rfl, fun i x hx j v hv => ?_⟩
  have hj : j < n := by have := lt_of hv; rwa [hn] at this
  rw [Nat.zero_add]
  refine cell_new_at W ds t _ v ?_
  rw [h, List.getElem?_toArray, Fl_at hn l i x hx j hj, hv]
end

theorem own_le {w : World} {base e size n cap : Nat} {ao : Option Addr} {xs : List Value} (h : w.ownsRow base e size (.slice ao n cap) n xs) : n ≤ cap := by
  rcases h.2 with ⟨e1, e2⟩ | ⟨g, c, cur, e1, _, _, e2, _⟩
  · simp only [Value.slice.injEq] at e1; omega
  · simp only [Value.slice.injEq] at e1; omega

theorem eql_nil {P : Program} (w : World) (t e : TypeId) (a : Option Addr) (l c : Nat) (h : P.underlying t = some (.slice e)) : (binOp .eql t (.slice a l c) (.slice none 0 0)).run P w = .ok (.bool a.isNone) w := by
  have h1 : ∀ d, (Op.equalIn (d + 1) t (.slice a l c) (.slice none 0 0)).run P w = .ok a.isNone w := fun d => by cases a <;> simp [Op.equalIn, run_underlying h]
  have h2 : (Op.equal t (.slice a l c) (.slice none 0 0)).run P w = .ok a.isNone w := h1 9999
  simp only [binOp]
  simp [h2]
end Go.Proofs.Ytcpmcfagibmboaa.Nr

namespace Go.Proofs.Ytcpmcfagibmboaa.Ma
open Go.RowKit Go.Shelf Pl Pw Pr Pf Pv Cp Ca Cb Cc Cd Ce Cf Gf Gk Ct Cu La Lb Mp Cl
open Cr hiding some_of
open Kt hiding mkH
open Kv
open Go.Proofs.Ytcpmcfagibmboaa.Nm (Srt)
set_option linter.unusedVariables false
set_option linter.unusedSimpArgs false
set_option maxRecDepth 20000

/-- Block b is a machine with this chart, so many slots, and these clients in the map m. -/
structure Mk (w : World) (b m : Nat) (e : Int) (ps : List Pc) (s : Int) (D : List Dd) : Prop where
  cells : ∃ a c, Bx w b #[.int .i64 e, .slice a ps.length c, .int .i64 s, .map (some m)] 90 ∧ RdP w a c ps
  map : Md w m D
theorem Mk.below {w w' : World} {b m : Nat} {e : Int} {ps : List Pc} {s : Int} {D : List Dd} (h : Mk w b m e ps s D) (hb : Below w.heap.size w w') : Mk w' b m e ps s D := by
  obtain ⟨⟨a, c, h1, h2⟩, h3⟩ := h
  exact ⟨⟨a, c, h1.bel hb, h2.below hb⟩, h3.below hb⟩
theorem Mk.lt {w : World} {b m : Nat} {e : Int} {ps : List Pc} {s : Int} {D : List Dd} (h : Mk w b m e ps s D) : b < w.heap.size ∧ m < w.heap.size := by
  obtain ⟨⟨a, c, h1, h2⟩, h3⟩ := h
  exact ⟨h1.lt, h3.lt⟩

theorem neq_map {P : Program} (w : World) (t k e : TypeId) (mo : Option Nat) (h : P.underlying t = some (.map k e)) : (binOp .neq t (.map mo) (.map none)).run P w = .ok (.bool mo.isSome) w := by
  have h1 : ∀ d, (Op.equalIn (d + 1) t (.map mo) (.map none)).run P w = .ok mo.isNone w := fun d => by cases mo <;> simp [Op.equalIn, run_underlying h]
  have h2 : (Op.equal t (.map mo) (.map none)).run P w = .ok mo.isNone w := h1 9999
  simp only [binOp]
  cases mo <;> simp [h2]
theorem eql_nil {P : Program} (w : World) (t e : TypeId) (a : Option Addr) (l c : Nat) (h : P.underlying t = some (.slice e)) : (binOp .eql t (.slice a l c) (.slice none 0 0)).run P w = .ok (.bool a.isNone) w := Nr.eql_nil w t e a l c h
theorem made_any {w : World} {b m : Nat} {e : Int} {ps : List Pc} {s : Int} {D : List Dd} (h : Mk w b m e ps s D) :
    Calls Try.prog 43 #[.pointer (some ⟨b, 0, none⟩)] w fun x w' => x = .returned (.bool true) ∧ w' = w := by
  obtain ⟨⟨a, c, h1, h2⟩, h3⟩ := h
  have c3 : w.cell? ⟨b, 3, none⟩ = some (.map (some m)) := h1.cell 3 _ rfl
  have hq := neq_map (P := Try.prog) w 86 _ _ (some m) Try.underlying86
  simp only [Option.isSome] at hq
  clear h1 h2 h3
  go_enter Try.func43, Try.ntmps43
  go_wp2
  go_ret
  exact ⟨rfl, rfl⟩
theorem slots_any {w : World} {b m : Nat} {e : Int} {ps : List Pc} {s : Int} {D : List Dd} (h : Mk w b m e ps s D) :
    Calls Try.prog 18 #[.pointer (some ⟨b, 0, none⟩)] w fun x w' => x = .returned (.int .i64 s) ∧ w' = w := by
  have HM := mkH (made_any h)
  obtain ⟨⟨a, c, h1, h2⟩, h3⟩ := h
  have c3 : w.cell? ⟨b, 2, none⟩ = some (.int .i64 s) := h1.cell 2 _ rfl
  clear h1 h2 h3
  go_enter Try.func18, Try.ntmps18
  go_wp2_with fail
  refine HM.out.mono ?_
  rintro x w2 ⟨rfl, rfl⟩
  go_wp2
  go_ret
  exact ⟨rfl, rfl⟩

set_option maxHeartbeats 1000000 in
theorem cloneP_any (w : World) (a : Option Addr) (c : Nat) (ps : List Pc) (h : RdP w a c ps) (hl : ps.length ≤ 1000000000) :
    Calls Try.prog 48 #[.slice a ps.length c] w fun x w' => ∃ a' c', x = .returned (.slice a' ps.length c') ∧ OwP w' w.heap.size a' c' ps ∧ Below w.heap.size w w' := by
  cases a with
  | none =>
    have h0 : ps = [] := by
      rcases Nat.eq_zero_or_pos ps.length with h1 | h1
      · exact List.eq_nil_of_length_eq_zero h1
      · obtain ⟨b, off, e, _⟩ := h.r h1; cases e
    subst h0
    have hq := eql_nil (P := Try.prog) w 22 63 none 0 c Try.underlying22
    simp only [Option.isNone] at hq
    clear h
    go_enter Try.func48, Try.ntmps48
    go_wp2
    go_ret
    exact ⟨none, 0, rfl, OwP.mk (by simpa [Fp, Fl] using World.ownsRow_nil w _ _ _), Below.refl _ _⟩
  | some a =>
    have hq := eql_nil (P := Try.prog) w 22 63 (some a) ps.length c Try.underlying22
    simp only [Option.isNone] at hq
    have hbz : ps.length * 24 ≤ 140737488355328 := by omega
    have HS := mkH (srcP (h.below ((Below.refl w.heap.size w).alloc (Nat.le_refl _) (.cells #[] 63))).r c)
    clear h
    go_enter Try.func48, Try.ntmps48
    go_wp2_with (at_builtin; refine (wpList_append_own_src _ rfl (.tmp 5) (.tmp 6) 22 22 rfl w.heap.size 63 _ 3 24 Try.underlying22 infoP rfl (by decide) _ 0 [] rfl (World.ownsRow_made w #[] 0 (Nat.le_refl _) (Nat.zero_le _) rfl) _ ps.length (Fp ps) rfl HS.out ?h632 ?hby2 ?hbs2 ?_))
    case h632 => unfold maxLen; omega
    case hby2 => omega
    case hbs2 => simp
    intro v2 w2 hown2 hgrow2
    have hbel := below_own (World.ownsRow_made (e := 63) (size := 3) w #[] 0 (Nat.le_refl _) (Nat.zero_le _) rfl) hgrow2 ((Below.refl w.heap.size w).alloc (Nat.le_refl _) (.cells #[] 63)) (by simp)
    have hown3 : w2.ownsRow w.heap.size 63 3 v2 ps.length (Fp ps) := by simpa using hown2
    clear hown2 hgrow2 HS
    obtain ⟨a', c', rfl⟩ := own_form hown3
    go_wp2
    go_ret
    exact ⟨a', c', rfl, OwP.mk hown3, hbel⟩

/-- What Chart answers. -/
def CrP (w : World) (e : Int) (ps : List Pc) (x : Ending) (w' : World) : Prop := ∃ a c, x = .returned (.agg #[.int .i64 e, .slice a ps.length c]) ∧ RdP w' a c ps ∧ Below w.heap.size w w'
theorem chart_any {w : World} {b m : Nat} {e : Int} {ps : List Pc} {s : Int} {D : List Dd} (h : Mk w b m e ps s D) (hl : ps.length ≤ 100000) :
    Calls Try.prog 19 #[.pointer (some ⟨b, 0, none⟩)] w (CrP w e ps) := by
  obtain ⟨W1, hW1⟩ : ∃ W1, W1 = w.alloc (.cells #[.int .i64 0, .slice none 0 0] 24) := ⟨_, rfl⟩
  have hb1 : Below w.heap.size w W1 := by rw [hW1]; exact (Below.refl _ w).alloc (Nat.le_refl _) _
  have hx1 : Bx W1 w.heap.size #[.int .i64 0, .slice none 0 0] 24 := by rw [hW1]; exact Bx.new _ _ _
  have h1 := h.below hb1
  have HM := mkH (made_any h1)
  obtain ⟨⟨a, c, q1, q2⟩, -⟩ := h1
  have HQ1 := mkH q1
  have HQ2 := mkH q2
  have HX1 := mkH hx1
  have HB1 := mkH hb1
  have HW1 := mkH hW1
  clear h hb1 hx1 q1 q2 hW1
  go_enter Try.func19, Try.ntmps19
  go_wp2_with fail
  rw [show w.alloc (.cells #[.int .i64 0, .slice none 0 0] 24) = W1 from HW1.out.symm]
  refine HM.out.mono ?_
  rintro x w2 ⟨rfl, rfl⟩
  clear HM HW1
  have HC : Hid (∀ W, Below w2.heap.size w2 W → W.cell? ⟨b, 0, none⟩ = some (.int .i64 e) ∧ W.cell? ⟨b, 1, none⟩ = some (.slice a ps.length c)) := mkH (fun W hb => ⟨(HQ1.out.bel hb).cell 0 _ rfl, (HQ1.out.bel hb).cell 1 _ rfl⟩)
  have HZF : Hid (∀ W, Below w2.heap.size w2 W → W.cell? ⟨w.heap.size, 0, none⟩ = some (.int .i64 0) ∧ W.cell? ⟨w.heap.size, 1, none⟩ = some (.slice none 0 0) ∧ W.frozen? ⟨w.heap.size, 0, none⟩ = false ∧ W.frozen? ⟨w.heap.size, 1, none⟩ = false) := mkH (fun W hb => two_load (P := Try.prog) (HX1.out.bel hb))
  have HCL : Hid (∀ W, Below w2.heap.size w2 W → Calls Try.prog 48 #[.slice a ps.length c] W fun x w' => ∃ a' c', x = .returned (.slice a' ps.length c') ∧ OwP w' W.heap.size a' c' ps ∧ Below w2.heap.size w2 w') := mkH (fun W hb => (cloneP_any W a c ps (HQ2.out.below hb) (by omega)).mono (fun x w' ⟨a', c', h1, h2, h3⟩ => ⟨a', c', h1, h2, hb.trans (h3.mono hb.size)⟩))
  have hbne : b ≠ w.heap.size := by
    intro h
    have h1 := HQ1.out
    rw [h] at h1
    have h2 := HX1.out
    rw [Bx] at h1 h2
    have h3 := congrArg (fun o => match o with | some (Obj.cells _ t _) => t | _ => 0) (h1.symm.trans h2)
    simp at h3
  obtain ⟨c0, c1⟩ := HC.out w2 (Below.refl _ _)
  have hz2 : w.heap.size < w2.heap.size := HX1.out.lt
  clear HQ1 HQ2
  go_wp2_with fail
  go_region_held3 (fun W => W.cell? ⟨b, 0, none⟩ = some (.int .i64 e) ∧ W.cell? ⟨b, 1, none⟩ = some (.slice a ps.length c)) (first | go_keep | exact hkeep | exact ⟨(cell_other hbne _).trans ((cell_other hbne _).trans hkeep.1), (cell_other hbne _).trans ((cell_other hbne _).trans hkeep.2)⟩) (first
    | (go_at_call 48; refine (HCL.out _ (by (repeat (first | exact Below.refl _ _ | refine Below.drew ?_ | refine Gf.below_drewN ?_ _)))).mono ?_; rintro z w7 ⟨a7, c7, rfl, ho7, hb7⟩; have hkeep := (by exact HC.out w7 hb7); have hz7 := HZF.out w7 hb7; obtain ⟨z0, z1, z2, z3⟩ := hz7))
  all_goals
    go_wp2_with fail
    have hx : Bx w7 w.heap.size #[.int .i64 0, .slice none 0 0] 24 := HX1.out.bel hb7
    have hs1 := hx.set 0 (.int .i64 e)
    have hs2 := hs1.set 1 (.slice a7 ps.length c7)
    have hf := (hx.frset 0 (.int .i64 e)).trans (hs1.frset 1 (.slice a7 ps.length c7)) (fun i hi => .inl hi)
    obtain ⟨y0, y1, -, -⟩ := two_load (P := Try.prog) hs2
    exact bodyPost_ret (v := .agg #[.int .i64 e, .slice a7 ps.length c7]) (res_c rfl _ _ _ (b := ⟨w.heap.size, 0, none⟩) (by rfl) (by simp [loadVar, go_sem, y0, y1])) rfl
      ⟨a7, c7, rfl, (OwP.mk (own_fr ho7.o hf (fun k hk hq => own_ne ho7.o hx hk (by decide) hq))).rd, ((HB1.out.trans (hb7.mono HB1.out.size)).setCell (Nat.le_refl _) _).setCell (Nat.le_refl _) _⟩
end Go.Proofs.Ytcpmcfagibmboaa.Ma

namespace Go.Proofs.Ytcpmcfagibmboaa.Kk
open Go.RowKit Go.Maps Go.Sort Go.Shelf Kt Mp Cl Ksh
open Go.Proofs.Ytcpmcfagibmboaa.Nm
set_option linter.unusedVariables false
set_option maxRecDepth 20000

abbrev vD (x : Dd) : Value := .int .i64 x.2
def iK (l : List Dd) : List Value := l.map fun (p : Dd) => Value.int .i64 p.1
theorem iK_len (l : List Dd) : (iK l).length = l.length := by simp [iK]
theorem intKeys_Dm (l : List Dd) : intKeys (Dm kD vD l) = l.map (fun (p : Dd) => p.1) := by
  simp only [Dm, intKeys, List.map_map]
  rfl
theorem sorts (m : Nat) : AnyZI.SortsIn Try.prog lsorted_ren Fence.wide m :=
  ⟨fun blk off cap ss W hH hblk hsz => callsIn_wide.2 (AnyM.slices_Sort_int lsort blk off cap ss W hH hblk hsz),
   fun p cap W => callsIn_wide.2 (AnyM.slices_Sort_int_none lsort p cap W)⟩
theorem keys_any (mb : Option Nat) (W : World) : Calls Try.prog 46 #[.map mb] W fun e w' => e = .returned (.func (.func 62) #[] #[.pointer (some ⟨W.heap.size, 0, none⟩)]) ∧ w' = W.alloc (.cells #[.map mb] 86) :=
  (callsIn_wide (n := 5)).1 (AnyZI.keys_in lkeys Fence.wide 5 trivial rfl mb W)
theorem sort_is {l : List Dd} (hs : Srt kD l) {ss : List Int} (h : ss.Perm (l.map fun (p : Dd) => p.1)) : (ss.mergeSort fun x y => decide (x ≤ y)) = l.map fun (p : Dd) => p.1 := by
  have h1 := mergeSort_of_perm_i h
  unfold leI at h1
  rw [h1]
  refine List.mergeSort_of_pairwise ?_
  rw [List.pairwise_map]
  exact List.Pairwise.imp (fun {a b} h => by simp; have h' : a.1 < b.1 := h; omega) hs

set_option maxHeartbeats 1000000 in
theorem sorted_any {w : World} {b : Nat} {l : List Dd} (hm : Md w b l) (hs : Srt kD l) (hl : l.length ≤ 100000) :
    Calls Try.prog 45 #[.func (.func 62) #[] #[.pointer (some ⟨w.heap.size, 0, none⟩)]] (w.alloc (.cells #[.map (some b)] 86)) fun e w' => ∃ ao cap, e = .returned (.slice ao l.length cap) ∧
      w'.ownsRow (w.heap.size + 1) 3 1 (.slice ao l.length cap) l.length (iK l) ∧ Below (w.heap.size + 1) (w.alloc (.cells #[.map (some b)] 86)) w' := by
  have hbl := hm.lt
  have hown : w.ownsMap Try.prog 3 vE b l.length (Dm kD vD l) := hm
  have hseq : SeqGives Fence.wide 2 Try.prog 62 #[.pointer (some ⟨w.heap.size, 0, none⟩)] encZ (fun ss => ss.Perm (intKeys (Dm kD vD l))) (Maps.size (Dm kD vD l)) (w.alloc (.cells #[.map (some b)] 86)) :=
    AnyZI.keys_gives (ρ := lkeys_ren) { lkeys with } Fence.wide _ trivial rfl (by omega) w.heap.size b l.length (Dm kD vD l) _ (by simp) (by simp) (hown.alloc _)
  refine (callsIn_wide (n := 5)).1 ?_
  refine (AnyZI.sorted_in lsorted Fence.wide 5 trivial trivial trivial trivial rfl (by omega) (sorts _) (enters_of Try.func61 (by kernel_rfl) rfl) 62 #[.pointer (some ⟨w.heap.size, 0, none⟩)] trivial (enters_of Try.func62 (by kernel_rfl) rfl) _ _ (by rw [Dm_size]; unfold maxLen; omega) (by rw [Dm_size]; omega) _ hseq).mono ?_
  rintro e w' ⟨v, ss, rfl, hS, hrow, hnil, hb⟩
  have hsz : (w.alloc (.cells #[.map (some b)] 86)).heap.size = w.heap.size + 1 := by simp
  rw [hsz] at hrow hb
  rw [intKeys_Dm] at hS
  have hlen : ss.length = l.length := by rw [hS.length_eq]; simp
  rw [sort_is hs hS, hlen] at hrow
  have e1 : (l.map fun (p : Dd) => p.1).map encZ = iK l := by simp [iK, encZ]
  rw [e1] at hrow
  obtain ⟨ao, cap, rfl⟩ := own_form hrow
  exact ⟨ao, cap, rfl, hrow, hb⟩
end Go.Proofs.Ytcpmcfagibmboaa.Kk

namespace Go.Proofs.Ytcpmcfagibmboaa.Fw
open Go.RowKit Kt Pl Rd Wr
set_option linter.unusedVariables false

theorem Row_take {w : World} {ao : Option Addr} {bs : List UInt8} (h : Row w ao bs) (k : Nat) : Row w ao (bs.take k) := by
  intro hl
  rw [List.length_take] at hl
  obtain ⟨b, off, e, hc⟩ := h (by omega)
  refine ⟨b, off, e, fun i hi => ?_⟩
  rw [List.length_take] at hi
  rw [hc i (by omega)]
  simp [show i < k by omega]

/-- 'b[k:]', its address as the walk writes it. -/
theorem Row_drop {w : World} {ao : Option Addr} {bs : List UInt8} (h : Row w ao bs) {k cap : Nat} (hc : bs.length ≤ cap) : Row w (if cap = k then ao else Option.map (fun x => x.add k) ao) (bs.drop k) := by
  intro hl
  rw [List.length_drop] at hl
  obtain ⟨b, off, e, hcl⟩ := h (by omega)
  rw [if_neg (by omega), e]
  refine ⟨b, off + k, by simp [Addr.add], fun i hi => ?_⟩
  rw [List.length_drop] at hi
  rw [Nat.add_assoc, hcl (k + i) (by omega)]
  simp

theorem enc300 : enc 300 = [172, 2] := by rw [enc_ge (by omega), enc_lt (by omega)]; rfl
theorem enc2 : enc 2 = [2] := by rw [enc_lt (by omega)]; rfl
end Go.Proofs.Ytcpmcfagibmboaa.Fw

namespace Go.Proofs.Ytcpmcfagibmboaa.Rd
open Go.RowKit Kt Pl Wr Fw
set_option linter.unusedVariables false

/-- What ReadText hands back. -/
def ansT (r : List UInt8 × Nat × Nat) : Ending := .returned (.tuple #[.string (S r.1), .int .i64 (r.2.1 : Int), .int .i64 (r.2.2 : Int)])
end Go.Proofs.Ytcpmcfagibmboaa.Rd

namespace Go.Proofs.Ytcpmcfagibmboaa.Ad
open Go.RowKit Kt Pl Rd Wr Fw
set_option linter.unusedVariables false

/-- A slice of numbers, as it is read. -/
def RowI (w : World) (ao : Option Addr) (l : List Int) : Prop :=
  0 < l.length → ∃ b off, ao = some ⟨b, off, none⟩ ∧ ∀ i, i < l.length → w.cell? ⟨b, off + i, none⟩ = some (.int .i64 (l.getD i 0))

theorem RowI.below {w w' : World} {ao : Option Addr} {l : List Int} (h : RowI w ao l) (hb : Below w.heap.size w w') : RowI w' ao l := by
  intro hl
  obtain ⟨b, off, e, hc⟩ := h hl
  refine ⟨b, off, e, fun i hi => ?_⟩
  have h1 := hc i hi
  rw [hb.cell (p := ⟨b, off + i, none⟩) (World.block_lt_of_cell? w _ h1)]
  exact h1

theorem RowI.own {w : World} {base e n : Nat} {ao : Option Addr} {cap : Nat} {l : List Nat} (h : w.ownsRow base e 1 (.slice ao n cap) n (I l)) : n = l.length ∧ n ≤ cap ∧ RowI w ao (l.map fun (n : Nat) => (n : Int)) := by
  have hn : n = l.length := by have := h.1; rw [I_length] at this; omega
  subst hn
  refine ⟨rfl, ?_, fun hl => ?_⟩
  · rcases h.2 with ⟨e1, e2⟩ | ⟨g, c, cur, e1, _, _, e2, _⟩
    · simp [e2]
    · simp only [Value.slice.injEq] at e1; omega
  · simp only [List.length_map] at hl ⊢
    rcases h.2 with ⟨e1, e2⟩ | ⟨g, c, cur, e1, _, hg, _, _, _, ht⟩
    · omega
    · simp only [Value.slice.injEq] at e1
      obtain ⟨rfl, _, rfl⟩ := e1
      refine ⟨g, 0, rfl, fun i hi => ?_⟩
      have := World.ownsRow.cellAt h i (by omega)
      rw [Nat.zero_add, this]
      simp [I, List.getD, List.getElem?_eq_getElem hi]

/-- A number that may be written. -/
def okN (x : Int) : Prop := 0 ≤ x ∧ x ≤ 4611686018427387904
def eI (x : Int) : List UInt8 := enc x.toNat

/-- What has been written of a list behind k items. -/
def pre {α : Type} (e : α → List UInt8) (l : List α) (k : Nat) : List UInt8 := enc l.length ++ (l.take k).flatMap e
theorem pre_zero {α : Type} (e : α → List UInt8) (l : List α) : pre e l 0 = enc l.length := by simp [pre]
theorem pre_all {α : Type} (e : α → List UInt8) (l : List α) : pre e l l.length = encList e l := by simp [pre, encList]
theorem pre_succ {α : Type} (e : α → List UInt8) (l : List α) (k : Nat) (x : α) (h : l[k]? = some x) : pre e l (k + 1) = pre e l k ++ e x := by
  obtain ⟨hk, rfl⟩ := List.getElem?_eq_some_iff.1 h
  unfold pre
  rw [List.take_succ_eq_append_getElem hk, List.flatMap_append]
  simp

theorem pre_len {l : List Int} {k : Nat} (hk : k ≤ l.length) (hl : l.length ≤ 1024) (hok : ∀ i x, i < k → l[i]? = some x → okN x) : (pre eI l k).length ≤ 9 + 9 * k := by
  induction k with
  | zero => rw [pre_zero]; have := enc_len9 (n := l.length) (by omega); omega
  | succ k ih =>
    have h1 : l[k]? = some l[k] := List.getElem?_eq_getElem (by omega)
    rw [pre_succ _ _ _ _ h1, List.length_append]
    have h2 := ih (by omega) (fun i x hi => hok i x (by omega))
    have h3 := hok k _ (by omega) h1
    have h4 : (eI l[k]).length ≤ 9 := enc_len9 (by have := h3.2; have := h3.1; omega)
    omega

theorem own_cat {w : World} {base e m : Nat} {v : Value} {bs p q : List UInt8} (h : w.ownsRow base e 1 v (m + p.length + q.length) (U (bs ++ p ++ q))) : w.ownsRow base e 1 v (m + (p ++ q).length) (U (bs ++ (p ++ q))) := by
  rw [List.length_append, ← List.append_assoc, ← Nat.add_assoc]; exact h
end Go.Proofs.Ytcpmcfagibmboaa.Ad

namespace Go.Proofs.Ytcpmcfagibmboaa.At
open Go.RowKit Kt Pl Rd Wr Fw
open Ad (pre pre_zero pre_all pre_succ own_cat)
set_option linter.unusedVariables false

/-- A slice of texts, as it is read. -/
def RowT (w : World) (ao : Option Addr) (l : List (List UInt8)) : Prop :=
  0 < l.length → ∃ b off, ao = some ⟨b, off, none⟩ ∧ ∀ i, i < l.length → w.cell? ⟨b, off + i, none⟩ = some (.string (S (l.getD i [])))

theorem RowT.below {w w' : World} {ao : Option Addr} {l : List (List UInt8)} (h : RowT w ao l) (hb : Below w.heap.size w w') : RowT w' ao l := by
  intro hl
  obtain ⟨b, off, e, hc⟩ := h hl
  refine ⟨b, off, e, fun i hi => ?_⟩
  have h1 := hc i hi
  rw [hb.cell (p := ⟨b, off + i, none⟩) (World.block_lt_of_cell? w _ h1)]
  exact h1

theorem RowT.own {w : World} {base e n : Nat} {ao : Option Addr} {cap : Nat} {l : List (List UInt8)} (h : w.ownsRow base e 1 (.slice ao n cap) n (T l)) : n = l.length ∧ n ≤ cap ∧ RowT w ao l := by
  have hn : n = l.length := by have := h.1; rw [T_length] at this; omega
  subst hn
  refine ⟨rfl, ?_, fun hl => ?_⟩
  · rcases h.2 with ⟨e1, e2⟩ | ⟨g, c, cur, e1, _, _, e2, _⟩
    · simp [e2]
    · simp only [Value.slice.injEq] at e1; omega
  · rcases h.2 with ⟨e1, e2⟩ | ⟨g, c, cur, e1, _, hg, _, _, _, ht⟩
    · omega
    · simp only [Value.slice.injEq] at e1
      obtain ⟨rfl, _, rfl⟩ := e1
      refine ⟨g, 0, rfl, fun i hi => ?_⟩
      have := World.ownsRow.cellAt h i (by omega)
      rw [Nat.zero_add, this]
      simp [T, List.getD, List.getElem?_eq_getElem hi]

/-- A text that may be written. -/
def okT (x : List UInt8) : Prop := x.length ≤ 4096

theorem pre_len {l : List (List UInt8)} {k : Nat} (hk : k ≤ l.length) (hl : l.length ≤ 1024) (hok : ∀ i x, i < k → l[i]? = some x → okT x) : (pre encText l k).length ≤ 9 + 4105 * k := by
  induction k with
  | zero => rw [pre_zero]; have := enc_len9 (n := l.length) (by omega); omega
  | succ k ih =>
    have h1 : l[k]? = some l[k] := List.getElem?_eq_getElem (by omega)
    rw [pre_succ _ _ _ _ h1, List.length_append]
    have h2 := ih (by omega) (fun i x hi => hok i x (by omega))
    have h3 := hok k _ (by omega) h1
    have h4 : (encText l[k]).length ≤ 4105 := by unfold encText; rw [List.length_append]; unfold okT at h3; have := enc_len9 (n := l[k].length) (by omega); omega
    omega

theorem own_cat {w : World} {base e m : Nat} {v : Value} {bs p q : List UInt8} (h : w.ownsRow base e 1 v (m + p.length + q.length) (U (bs ++ p ++ q))) : w.ownsRow base e 1 v (m + (p ++ q).length) (U (bs ++ (p ++ q))) := by
  rw [List.length_append, ← List.append_assoc, ← Nat.add_assoc]; exact h
end Go.Proofs.Ytcpmcfagibmboaa.At

namespace Go.Proofs.Ytcpmcfagibmboaa.Mq
open Go.RowKit Go.Shelf Pl Gf Gk Ct Cu La Mp Cl Ma Cp
open Cr hiding some_of
open Kt
open At (RowT)
open Go.Proofs.Ytcpmcfagibmboaa.Nm (Srt atX mem_at)
open Kk (iK)
set_option linter.unusedVariables false
set_option linter.unusedSimpArgs false
set_option maxRecDepth 20000

/-- The texts of a machine's dump. -/
noncomputable def dmp (e : Int) (ps : List Pc) (s : Int) (D : List Dd) : List (List UInt8) := [txt [s], txt (nums e ps.length ps), txt (D.flatMap n2)]
/-- What Dump answers. -/
def DuP (w : World) (e : Int) (ps : List Pc) (s : Int) (D : List Dd) (x : Ending) (w' : World) : Prop := ∃ ao cap, x = .returned (.tuple #[.slice ao 3 cap, .int .i64 0]) ∧ RowT w' ao (dmp e ps s D) ∧ Below w.heap.size w w'
theorem n2_snoc (D : List Dd) (k : Nat) (x : Dd) (h : D[k]? = some x) : (D.take (k + 1)).flatMap n2 = (D.take k).flatMap n2 ++ [x.1, x.2] := by
  rw [List.take_add_one, h, List.flatMap_append]
  rfl

theorem rowI_of {W : World} {b : Nat} {cs : Array Value} {t : TypeId} (h : Bx W b cs t) (l : List Int) (hl : cs = (l.map (Value.int .i64)).toArray) : RowI W (some ⟨b, 0, none⟩) l := by
  intro _
  refine ⟨b, 0, rfl, fun i hi => ?_⟩
  subst hl
  rw [Nat.zero_add]
  exact h.cell i _ (by simp [List.getD, List.getElem?_eq_getElem hi])
theorem rowT3 (w : World) (a b c : List UInt8) (t : TypeId) : RowT (w.alloc (.cells #[.string (S a), .string (S b), .string (S c)] t)) (some ⟨w.heap.size, 0, none⟩) [a, b, c] := by
  intro _
  have h : Bx (w.alloc (.cells #[.string (S a), .string (S b), .string (S c)] t)) w.heap.size #[.string (S a), .string (S b), .string (S c)] t := Bx.new _ _ _
  refine ⟨w.heap.size, 0, rfl, fun i hi => ?_⟩
  have h3 : i < 3 := hi
  rw [Nat.zero_add]
  obtain rfl | rfl | rfl : i = 0 ∨ i = 1 ∨ i = 2 := by omega
  · exact h.cell 0 _ rfl
  · exact h.cell 1 _ rfl
  · exact h.cell 2 _ rfl
theorem last_mem {D : List Dd} (h : Srt kD D) {x : Dd} (hx : x ∈ D) : lastN D x.1 = x.2 := by
  unfold lastN
  rw [show atX kD D x.1 = some x from mem_at h hx]

set_option maxHeartbeats 4000000 in
theorem mdump_any {w : World} {b m : Nat} {e : Int} {ps : List Pc} {s : Int} {D : List Dd} (h : Mk w b m e ps s D) (hl : ps.length ≤ 30000) (hm : Cp.mayC e ps = true) (hs : 0 ≤ s ∧ s ≤ 4611686018427387904)
    (hD : Srt kD D ∧ D.length ≤ 10000 ∧ ∀ x ∈ D, okN x.1 ∧ okN x.2) :
    Calls Try.prog 17 #[.pointer (some ⟨b, 0, none⟩)] w (DuP w e ps s D) := by
  have HMA := mkH (made_any h)
  have HMK := mkH h
  obtain ⟨⟨a, c, q1, q2⟩, q3⟩ := h
  have HDU := mkH (dump_any w e a c ps q2 hl)
  rw [dmpV_may hm] at HDU
  have c0 : w.cell? ⟨b, 0, none⟩ = some (.int .i64 e) := q1.cell 0 _ rfl
  have c1 : w.cell? ⟨b, 1, none⟩ = some (.slice a ps.length c) := q1.cell 1 _ rfl
  have HC : Hid (∀ W, Below w.heap.size w W → W.cell? ⟨b, 2, none⟩ = some (.int .i64 s) ∧ W.cell? ⟨b, 3, none⟩ = some (.map (some m))) := mkH (fun W hb => ⟨(q1.bel hb).cell 2 _ rfl, (q1.bel hb).cell 3 _ rfl⟩)
  have HD := mkH hD
  have HS := mkH hs
  clear q1 q2 q3 hD
  go_enter Try.func17, Try.ntmps17
  go_wp2_with fail
  refine HMA.out.mono ?_
  rintro x w2 ⟨rfl, rfl⟩
  clear HMA
  go_wp2_with fail
  refine HDU.out.mono ?_
  rintro x w3 ⟨rfl, hb3⟩
  obtain ⟨d2, d3⟩ := HC.out w3 hb3
  have HMK3 := mkH (HMK.out.below hb3)
  have HB3 := mkH hb3
  clear c0 c1 hb3 HDU
  have HKE := mkH (Kk.keys_any (some m) w3)
  go_wp2_with fail
  refine HKE.out.mono ?_
  rintro x w4 ⟨rfl, rfl⟩
  have HSO := mkH (Kk.sorted_any HMK3.out.map HD.out.1 (by have := HD.out.2.1; omega))
  clear HKE
  go_wp2_with fail
  refine HSO.out.mono ?_
  rintro x w5 ⟨ao, cap, rfl, ho5, hb5⟩
  have hIK : iK D = J (D.map (fun x : Dd => x.1)) := by simp [iK, J]
  rw [hIK] at ho5
  have hz4 : (w3.alloc (.cells #[.map (some m)] 86)).heap.size = w3.heap.size + 1 := by simp
  have hb5' : Below w3.heap.size w3 w5 := ((Below.refl _ w3).alloc (Nat.le_refl _) _).trans (hb5.mono (by omega))
  have HRI := mkH (RowI.own (l := D.map (fun x : Dd => x.1)) ho5).2
  have HB5 := mkH (HB3.out.trans (hb5'.mono HB3.out.size))
  have HM5 := mkH (HMK3.out.below hb5')
  clear ho5 hb5 hb5' HSO hIK d2 d3 hz4
  go_wp2_with fail
  clear HMK3
  go_loopw [6, 30] (fun v i wr => ∃ k : Nat, k ≤ D.length ∧ i = .int .i64 k ∧ Hid (wr.ownsRow w5.heap.size 3 1 v (2 * k) (J ((D.take k).flatMap n2))) ∧ Hid (Below w5.heap.size w5 wr)) (fun _ i _ => D.length - (intOf i).toNat)
  case atStart => exact ⟨0, Nat.zero_le _, rfl, mkH ⟨by simp [J], .inl ⟨rfl, rfl⟩⟩, mkH (Below.refl _ _)⟩
  case round =>
    obtain ⟨k, hk, rfl, HO, HB⟩ := hrel
    obtain ⟨av, cv, rfl⟩ := own_form HO.out
    have hwz := HB.out.size
    have hDl := HD.out.2.1
    by_cases hlt : k < D.length
    · obtain ⟨x, hx⟩ := Cr.some_of hlt
      have hxm := List.mem_of_getElem? hx
      obtain ⟨bk, ok, rfl, hck⟩ := (HRI.out.below HB.out) (by simp; omega)
      have hck' := hck k (by simpa using hlt)
      rw [show (D.map (fun x : Dd => x.1)).getD k 0 = x.1 by simp [List.getD, List.getElem?_map, hx]] at hck'
      have hi : (k : Int) < (D.length : Int) := by omega
      have hi0 : (0 : Int) ≤ (k : Int) := by omega
      have hokx := HD.out.2.2 x hxm
      have hlook := (HM5.out.map.below HB.out).look (k := x.1) (Rc.wf_int (by have := hokx.1.1; omega) (by have := hokx.1.2; omega))
      rw [last_mem HD.out.1 hxm] at hlook
      obtain ⟨-, d3⟩ := HC.out wr (HB5.out.trans (HB.out.mono HB5.out.size))
      have HNX := mkH (n2_snoc D k x hx)
      have hal : Below wr.heap.size wr (wr.alloc (.cells #[.int .i64 x.1, .int .i64 x.2] 3)) := (Below.refl _ wr).alloc (Nat.le_refl _) _
      have HO2 := mkH (own_below HO.out hal)
      have HB2 := mkH (HB.out.trans (hal.mono hwz))
      have HSR := mkH (RowI.src (rowI_of (Bx.new wr #[.int .i64 x.1, .int .i64 x.2] 3) [x.1, x.2] rfl) 2)
      clear hck hx hxm hokx hal HO HB
      go_wp2_with (at_builtin; refine (wpList_append_own_src _ rfl (.tmp 34) (.tmp 42) 66 66 rfl w5.heap.size 3 (.int .i64 0) 1 8 Try.underlying66 info3 rfl (by decide) _ (2 * k) (J ((D.take k).flatMap n2)) rfl HO2.out _ 2 (J [x.1, x.2]) rfl HSR.out ?h632 ?hby2 ?hbs2 ?_))
      case h632 => unfold maxLen; omega
      case hby2 => omega
      case hbs2 => simp; omega
      intro v2 w7 hown7 hgrow7
      have hb7 := below_own HO2.out hgrow7 HB2.out (by simp; omega)
      have HO7 : Hid (w7.ownsRow w5.heap.size 3 1 v2 (2 * (k + 1)) (J ((D.take (k + 1)).flatMap n2))) := mkH (by rw [HNX.out, J_append]; exact hown7)
      have HB7 := mkH hb7
      clear hown7 hgrow7 hb7 HO2 HB2 HSR HNX hlook hck' d3
      go_wp2
      go_roundw
      case rel => exact ⟨k + 1, by omega, by go_num, HO7, HB7⟩
      case measure => simp [intOf]; omega
    · have hkl : k = D.length := by omega
      subst hkl
      rw [List.take_length] at HO
      obtain ⟨d2, -⟩ := HC.out wr (HB5.out.trans (HB.out.mono HB5.out.size))
      have hl2 : (D.flatMap n2).length = 2 * D.length := flat2_len D
      have hor := HO.out
      rw [← hl2] at hor
      have HR2 := mkH (RowI.own hor).2
      have hal : Below wr.heap.size wr (wr.alloc (.cells #[.int .i64 s] 3)) := (Below.refl _ wr).alloc (Nat.le_refl _) _
      have HT1 := mkH (textOf_any (wr.alloc (.cells #[.int .i64 s] 3)) (some ⟨wr.heap.size, 0, none⟩) 1 [s] (rowI_of (Bx.new wr #[.int .i64 s] 3) [s] rfl) (by intro x hx; have ex : x = s := (by simpa using hx); rw [ex]; exact HS.out) (by simp))
      have HBa := mkH ((HB5.out.trans (HB.out.mono HB5.out.size)).trans (hal.mono (by have := HB5.out.size; omega)))
      have HRa := mkH (HR2.out.below hal)
      have HL2 := mkH hl2
      have HOKC : Hid (∀ y ∈ D.flatMap n2, okN y) := mkH (by
        intro y hy
        obtain ⟨x, hx, hy⟩ := List.mem_flatMap.1 hy
        have := HD.out.2.2 x hx
        simp [n2] at hy
        rcases hy with rfl | rfl
        · exact this.1
        · exact this.2)
      clear hor hal hl2 HO HB HR2
      simp only [List.length_cons, List.length_nil, Nat.zero_add] at HT1
      go_wp2_with fail
      refine HT1.out.mono ?_
      rintro x w7 ⟨rfl, hb7⟩
      have HT2 := mkH (textOf_any w7 av cv (D.flatMap n2) (HRa.out.below hb7) HOKC.out (by rw [HL2.out]; omega))
      rw [HL2.out] at HT2
      have HB7 := mkH (HBa.out.trans (hb7.mono HBa.out.size))
      clear hb7 HT1 HBa HRa
      go_wp2_with fail
      refine HT2.out.mono ?_
      rintro x w8 ⟨rfl, hb8⟩
      have HB8 := mkH ((HB7.out.trans (hb8.mono HB7.out.size)))
      clear hb8 HT2
      go_wp2
      go_ret2
      exact ⟨_, _, rfl, rowT3 _ _ _ _ _, HB8.out.alloc HB8.out.size _⟩
end Go.Proofs.Ytcpmcfagibmboaa.Mq

namespace Go.Proofs.Ytcpmcfagibmboaa.Mn
open Go.RowKit Gf Gk Mp
open Go.Proofs.Ytcpmcfagibmboaa.Nm
open Nr hiding some_of
open Kt
set_option linter.unusedVariables false
set_option linter.unusedSimpArgs false
set_option maxRecDepth 20000

def dC (x : Dd) : List Value := [.int .i64 x.1, .int .i64 x.2]
theorem dC_len (x : Dd) : (dC x).length = 2 := rfl
theorem dC_one (x : Dd) : ∀ u ∈ dC x, u.oneCell' = true := by intro u hu; simp [dC] at hu; rcases hu with rfl | rfl <;> rfl
abbrev RowD := RowS 2 dC
abbrev Fdd (l : List Dd) : List Value := Fl dC l
theorem infoD : (Try.prog.info? 107).map (fun i => (i.zero, i.size, i.bytes)) = some (some (.agg #[.int .i64 0, .int .i64 0]), 2, 16) := by kernel_rfl
theorem newD (w : World) (x : Dd) (t : TypeId) : Src Try.prog 2 49 (.slice (some ⟨w.heap.size, 0, none⟩) 1 1) 1 (Fdd [x]) (w.alloc (.cells #[.int .i64 x.1, .int .i64 x.2] t)) := src_new dC_len dC_one (by decide) Try.underlying49 w x t
theorem atD {w : World} {ao : Option Addr} {l : List Dd} (h : RowD w ao l) {i : Nat} {x : Dd} (hx : l[i]? = some x) : ∃ b off, ao = some ⟨b, off, none⟩ ∧
    w.cell? ⟨b, off + i * 2, none⟩ = some (.int .i64 x.1) ∧ w.cell? ⟨b, off + i * 2 + 1, none⟩ = some (.int .i64 x.2) := by
  have hi := lt_of hx
  obtain ⟨b, off, rfl, hc⟩ := h (by omega)
  exact ⟨b, off, rfl, hc i x hx 0 _ rfl, hc i x hx 1 _ rfl⟩

theorem lastN_step {l : List Dd} {k : Nat} {x : Dd} (c : Int) (h : l[k]? = some x) : lastN (l.drop k) c = if x.1 = c then x.2 else lastN (l.drop (k + 1)) c := by
  have hk := lt_of h
  rw [List.getElem?_eq_getElem hk] at h
  injection h with h
  rw [List.drop_eq_getElem_cons hk, h]
  unfold lastN
  rw [atX]
  show (match if x.1 = c then some x else atX kD (List.drop (k + 1) l) c with | some x => x.2 | none => 0) = _
  split <;> rename_i h1 <;> split at h1
  · rename_i h2; cases h1; rw [if_pos h2]
  · rename_i h2; rw [if_neg h2, h1]
  · cases h1
  · rename_i h2; rw [if_neg h2, h1]

theorem last_any (w : World) (R : Nat) (u0 u1 u2 : Value) (ka : Option Addr) (kc : Nat) (l : List Dd) (hb : Bx w R #[u0, u1, u2, .slice ka l.length kc] 51) (hr : RowD w ka l) (hl : l.length ≤ 100000) (c : Int) :
    Calls Try.prog 59 #[.pointer (some ⟨R, 0, none⟩), .int .i64 c] w fun x w' => x = .returned (.int .i64 (lastN l c)) ∧ w' = w := by
  obtain ⟨V, hV⟩ : ∃ V, V = lastN l c := ⟨_, rfl⟩
  rw [← hV]
  have HV := mkH hV
  clear hV
  have r3 : w.cell? ⟨R, 3, none⟩ = some (.slice ka l.length kc) := hb.cell 3 _ rfl
  have HR := mkH hr
  clear hr hb
  go_enter Try.func59, Try.ntmps59
  go_wp2
  go_loopw [5] (fun i wr => ∃ k : Nat, k ≤ l.length ∧ i = .int .i64 k ∧ Hid (V = lastN (l.drop k) c) ∧ wr = w) (fun i _ => l.length - (intOf i).toNat)
  case atStart => exact ⟨0, Nat.zero_le _, rfl, HV, rfl⟩
  case round =>
    obtain ⟨k, hk, rfl, HF, rfl⟩ := hrel
    by_cases hlt : k < l.length
    · obtain ⟨x, hx⟩ := Nr.some_of hlt
      obtain ⟨b, o, e1, c0, c1⟩ := atD HR.out hx
      subst e1
      have hi : (k : Int) < (l.length : Int) := by omega
      have hi0 : (0 : Int) ≤ (k : Int) := by omega
      have HS := mkH (lastN_step c hx)
      clear hx HV
      by_cases hq : x.1 = c
      · have HQ : Hid (V = x.2) := mkH (by rw [HF.out, HS.out, if_pos hq])
        go_wp2
        go_ret
        exact ⟨by rw [HQ.out]; rfl, rfl⟩
      · have HQ : Hid (V = lastN (l.drop (k + 1)) c) := mkH (by rw [HF.out, HS.out, if_neg hq])
        go_wp2
        go_roundw
        case rel => exact ⟨k + 1, by omega, by go_num, HQ, by first | rfl | trivial⟩
        case measure => simp [intOf]; omega
    · have : k = l.length := by omega
      subst this
      rw [List.drop_length] at HF
      go_wp2
      go_ret
      exact ⟨by rw [HF.out]; rfl, rfl⟩

/-- What 'note' puts together up to a place: whether the new one was put, and what stands there. -/
def insN (l : List Dd) (c n : Int) (k : Nat) (p : Bool) (out : List Dd) : Prop := (p = true ↔ ∃ y ∈ l.take k, c ≤ y.1) ∧ out = if p then put kD (l.take k) (c, n) else l.take k
theorem put_app {l : List Dd} {x : Dd} {c n : Int} (hs : Srt kD (l ++ [x])) (h : ∃ y ∈ l, c ≤ y.1) : put kD (l ++ [x]) (c, n) = put kD l (c, n) ++ [x] := by
  induction l with
  | nil => obtain ⟨y, hy, _⟩ := h; cases hy
  | cons z l ih =>
    obtain ⟨h1, h2⟩ := List.pairwise_cons.1 hs
    rw [List.cons_append, put, put]
    by_cases a : c < z.1
    · rw [if_pos a, if_pos a]; rfl
    · rw [if_neg a, if_neg a]
      by_cases b : c = z.1
      · rw [if_pos b, if_pos b]; rfl
      · rw [if_neg b, if_neg b, ih h2 ?_]; rfl
        obtain ⟨y, hy, hc⟩ := h
        rcases List.mem_cons.1 hy with rfl | hy
        · have a' : ¬ c < y.1 := a; have b' : ¬ c = y.1 := b; omega
        · exact ⟨y, hy, hc⟩
theorem put_mid : ∀ (l : List Dd) (x : Dd) (c n : Int), (∀ y ∈ l, y.1 < c) → c ≤ x.1 → put kD (l ++ [x]) (c, n) = l ++ (c, n) :: (if c = x.1 then [] else [x])
  | [], x, c, n, _, h => by
    rw [List.nil_append, put]
    by_cases a : c = x.1
    · rw [if_neg (by show ¬ c < x.1; omega), if_pos (by exact a), if_pos a]; rfl
    · rw [if_pos (by show c < x.1; omega), if_neg a]; rfl
  | z :: l, x, c, n, h, hx => by
    have h1 := h z (by simp)
    rw [List.cons_append, put, if_neg (by show ¬ c < z.1; omega), if_neg (by show ¬ c = z.1; omega), put_mid l x c n (fun y hy => h y (by simp [hy])) hx]
    rfl
theorem ins_step {l : List Dd} {c n : Int} {k : Nat} {p : Bool} {out : List Dd} {x : Dd} (hs : Srt kD l) (h : insN l c n k p out) (hx : l[k]? = some x) :
    insN l c n (k + 1) (p || decide (c ≤ x.1)) ((if p = false ∧ c ≤ x.1 then out ++ [(c, n)] else out) ++ (if x.1 = c then [] else [x])) := by
  have hk := lt_of hx
  have ht : l.take (k + 1) = l.take k ++ [x] := by
    rw [List.take_add_one, hx]; rfl
  have hsk : Srt kD (l.take k ++ [x]) := by rw [← ht]; exact List.Pairwise.sublist (List.take_sublist _ _) hs
  obtain ⟨h1, h2⟩ := h
  unfold insN
  rw [ht]
  cases p with
  | false =>
    have hall : ∀ y ∈ l.take k, y.1 < c := fun y hy => by
      rcases Int.lt_or_le y.1 c with h | h
      · exact h
      · have := h1.2 ⟨y, hy, h⟩; cases this
    obtain rfl : out = l.take k := h2
    by_cases hc : c ≤ x.1
    · rw [if_pos ⟨rfl, hc⟩]
      refine ⟨by simp [hc], ?_⟩
      rw [show (false || decide (c ≤ x.1)) = true by simpa using hc, if_pos rfl, put_mid _ _ _ _ hall hc]
      by_cases he : x.1 = c
      · rw [if_pos he, if_pos he.symm]; simp
      · rw [if_neg he, if_neg (fun e => he e.symm)]; simp
    · rw [if_neg (fun q => hc q.2), if_neg (by omega)]
      refine ⟨?_, by simp [hc]⟩
      constructor
      · intro q; simp [hc] at q
      · rintro ⟨y, hy, hy2⟩
        rcases List.mem_append.1 hy with hy | hy
        · have := hall y hy; omega
        · obtain rfl : y = x := by simpa using hy
          exact absurd hy2 hc
  | true =>
    obtain ⟨y, hy, hyc⟩ := h1.1 rfl
    have hlt : y.1 < x.1 := (List.pairwise_append.1 hsk).2.2 y hy x (by simp)
    obtain rfl : out = put kD (l.take k) (c, n) := h2
    rw [if_neg (by simp), if_neg (by omega)]
    exact ⟨⟨fun _ => ⟨y, List.mem_append_left _ hy, hyc⟩, fun _ => rfl⟩, by simp; rw [put_app hsk ⟨y, hy, hyc⟩]⟩
theorem ins_end {l : List Dd} {c n : Int} {p : Bool} {out : List Dd} (h : insN l c n l.length p out) : (if p then out else out ++ [(c, n)]) = put kD l (c, n) := by
  obtain ⟨h1, h2⟩ := h
  rw [List.take_length] at h1 h2
  cases p with
  | true => exact h2
  | false =>
    obtain rfl : out = l := h2
    rw [put_last]
    · rfl
    · intro y hy
      rcases Int.lt_or_le y.1 c with h | h
      · exact h
      · have := h1.2 ⟨y, hy, h⟩; cases this
theorem ins_len {l : List Dd} {c n : Int} {k : Nat} {p : Bool} {out : List Dd} (h : insN l c n k p out) : out.length ≤ k + 1 := by
  have ht : (l.take k).length ≤ k := by rw [List.length_take]; omega
  rw [h.2]
  split
  · have := len_put_le (key := kD) (l.take k) (c, n); omega
  · omega
end Go.Proofs.Ytcpmcfagibmboaa.Mn
