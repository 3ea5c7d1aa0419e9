/-
  GpS GpB, joined by mrg.py.
-/
import Derived.Test.YtgbbajeeelgbhaaGreatDoorSqAB
import Derived.Test.YtgbbajeeelgbhaaGreatDoorSqAC
import Derived.Deep.LoopGhost

namespace Go.Proofs.YtgbbajeeelgbhaaGreatDoor.Gs
open Go.RowKit Kt Gf Gp Gr Gk
set_option linter.unusedVariables false
set_option linter.unusedSimpArgs false
set_option maxRecDepth 20000

section
variable {w : World} {base e size n cap g : Nat} {xs : List Value}
/-- The block of a row that is not nil. -/
theorem own_block (h : w.ownsRow base e size (.slice (some ⟨g, 0, none⟩) n cap) n xs) : ∃ cur : Array Value, base ≤ g ∧ w.heap[g]? = some (.cells cur e (0, 0)) ∧ n ≤ cap ∧ cap ≤ maxLen ∧ cur.size = cap * size ∧ cur.toList.take (n * size) = xs ∧ xs.length = n * size := by
  rcases h.2 with ⟨e1, _⟩ | ⟨g', c, cur, e1, h1, h2, h3, h4, h5, h6⟩
  · cases e1
  · simp only [Value.slice.injEq, Option.some.injEq, Addr.mk.injEq] at e1
    obtain ⟨⟨rfl, -, -⟩, -, rfl⟩ := e1
    exact ⟨cur, h1, h2, h3, h4, h5, h6, h.1⟩
theorem own_some {ao : Option Addr} (h : w.ownsRow base e size (.slice ao n cap) n xs) (hn : 0 < n) : ∃ g, ao = some ⟨g, 0, none⟩ := by
  rcases h.2 with ⟨e1, h0⟩ | ⟨g', c, cur, e1, _⟩
  · omega
  · simp only [Value.slice.injEq] at e1; exact ⟨g', e1.1⟩
/-- A piece of the row turned. -/
theorem own_splice (h : w.ownsRow base e size (.slice (some ⟨g, 0, none⟩) n cap) n xs) (C : Array Value) (ys : List Value) (hC : ∀ cur, w.heap[g]? = some (.cells cur e (0, 0)) → C.size = cur.size ∧ (cur.toList.take (n * size) = xs → C.toList.take (n * size) = ys)) (hy : ys.length = xs.length) :
    (w.setRow g C).ownsRow base e size (.slice (some ⟨g, 0, none⟩) n cap) n ys ∧ Fr (fun k => k = g) w (w.setRow g C) := by
  obtain ⟨cur, h1, h2, h3, h4, h5, h6, h7⟩ := own_block h
  obtain ⟨c1, c2⟩ := hC cur h2
  refine ⟨⟨by rw [hy, h7], .inr ⟨g, cap, C, rfl, h1, setRow_heap w g cur C e (0, 0) h2, h3, h4, by rw [c1, h5], c2 h6⟩⟩, (Fr.refl (fun k => k = g) w).setRow (b := g) (.inl rfl) _⟩
theorem own_cut (h : w.ownsRow base e size (.slice (some ⟨g, 0, none⟩) n cap) n xs) (m : Nat) (hm : m ≤ n) : w.ownsRow base e size (.slice (some ⟨g, 0, none⟩) m cap) m (xs.take (m * size)) := by
  obtain ⟨cur, h1, h2, h3, h4, h5, h6, h7⟩ := own_block h
  have hmn : m * size ≤ n * size := Nat.mul_le_mul_right _ hm
  refine ⟨by rw [List.length_take, h7]; omega, .inr ⟨g, cap, cur, rfl, h1, h2, by omega, h4, h5, ?_⟩⟩
  rw [← h6, List.take_take, Nat.min_eq_left hmn]
end

section
variable {α : Type} {n : Nat} {cs : α → List Value} (hn : ∀ x, (cs x).length = n)
include hn
theorem Fl_split (l : List α) (i : Nat) (x : α) (hx : l[i]? = some x) : Fl cs l = Fl cs (l.take i) ++ (cs x ++ Fl cs (l.drop (i + 1))) ∧ (Fl cs (l.take i)).length = i * n := by
  have hi := lt_of hx
  have e : l = l.take i ++ ([x] ++ l.drop (i + 1)) := by
    obtain ⟨h1, h2⟩ := List.getElem?_eq_some_iff.1 hx
    rw [List.singleton_append, ← h2, List.getElem_cons_drop h1, List.take_append_drop]
  refine ⟨?_, by rw [Fl_length hn, List.length_take]; congr 1; omega⟩
  conv => lhs; rw [e]
  rw [Fl_append, Fl_append, Fl_single]
theorem Fl_set (l : List α) (i : Nat) (x y : α) (hx : l[i]? = some x) : Fl cs (l.set i y) = Fl cs (l.take i) ++ (cs y ++ Fl cs (l.drop (i + 1))) := by
  have hi := lt_of hx
  rw [(Fl_split hn (l.set i y) i y (by rw [List.getElem?_set_self hi])).1]
  rw [List.take_set_of_le (Nat.le_refl i), List.drop_set_of_lt (by omega)]
theorem own_put {w : World} {base e g m cap : Nat} {l : List α} (h : w.ownsRow base e n (.slice (some ⟨g, 0, none⟩) m cap) m (Fl cs l)) {i : Nat} {x : α} (hx : l[i]? = some x) (y : α) :
    ∃ cur, w.heap[g]? = some (.cells cur e (0, 0)) ∧ i * n + n ≤ cur.size ∧
    (w.setRow g (cur.toList.take (i * n) ++ cs y ++ cur.toList.drop (i * n + n)).toArray).ownsRow base e n (.slice (some ⟨g, 0, none⟩) m cap) m (Fl cs (l.set i y)) ∧
    Fr (fun k => k = g) w (w.setRow g (cur.toList.take (i * n) ++ cs y ++ cur.toList.drop (i * n + n)).toArray) := by
  obtain ⟨cur, h1, h2, h3, h4, h5, h6, h7⟩ := own_block h
  obtain ⟨s1, s2⟩ := Fl_split hn l i x hx
  have s3 := Fl_set hn l i x y hx
  have hlen := Fl_length hn l
  have hi := lt_of hx
  have hin : i * n + n ≤ l.length * n := by have : (i + 1) * n ≤ l.length * n := Nat.mul_le_mul_right n hi; rw [Nat.add_mul] at this; omega
  have hmn : l.length * n = m * n := by rw [← hlen]; exact h7
  have hcap : m * n ≤ cap * n := Nat.mul_le_mul_right n h3
  refine ⟨cur, h2, by omega, own_splice h _ _ (fun cur' hc' => ?_) (by rw [Fl_length hn, Fl_length hn, List.length_set])⟩
  rw [h2] at hc'
  simp only [Option.some.injEq, Obj.cells.injEq, and_true, true_and] at hc'
  subst hc'
  refine ⟨by simp [hn]; omega, fun ht => ?_⟩
  generalize hT : cur.toList.drop (m * n) = T
  have hcur : cur.toList = Fl cs (l.take i) ++ (cs x ++ (Fl cs (l.drop (i + 1)) ++ T)) := by
    have := List.take_append_drop (m * n) cur.toList
    rw [ht, s1, hT] at this
    rw [← this]
    simp only [List.append_assoc]
  have t1 : List.take (i * n) (Fl cs (l.take i) ++ (cs x ++ (Fl cs (l.drop (i + 1)) ++ T))) = Fl cs (l.take i) := List.take_left' s2
  have t2 : List.drop (i * n + n) (Fl cs (l.take i) ++ (cs x ++ (Fl cs (l.drop (i + 1)) ++ T))) = Fl cs (l.drop (i + 1)) ++ T := by
    rw [← List.append_assoc]
    exact List.drop_left' (by rw [List.length_append, s2, hn])
  show List.take (m * n) (cur.toList.take (i * n) ++ cs y ++ cur.toList.drop (i * n + n)) = _
  rw [hcur, t1, t2, s3, show Fl cs (l.take i) ++ cs y ++ (Fl cs (l.drop (i + 1)) ++ T) = (Fl cs (l.take i) ++ (cs y ++ Fl cs (l.drop (i + 1)))) ++ T by simp only [List.append_assoc]]
  refine List.take_left' ?_
  rw [← s3, Fl_length hn, List.length_set, hmn]
end

section
variable {P : Program} {α : Type} {n : Nat} {cs : α → List Value} (hn : ∀ x, (cs x).length = n) (h1 : ∀ x, ∀ u ∈ cs x, u.oneCell' = true)
include hn h1
/-- A struct stored into a row of the call's own. -/
theorem wpList_st_own {ops : Array Oper} {rest : List Oper} {o : Oper} {a : Act} {w : World} {Q : Exit → Act → World → Prop} (hgd : o.guard = none) (ty : TypeId) (x y : Operand) (ho : o.op = .store ty x y)
    (base e g cap i m : Nat) (l : List α) (hO : w.ownsRow base e n (.slice (some ⟨g, 0, none⟩) m cap) m (Fl cs l)) (r s : α) (hj : l[i]? = some r) (hi : (P.info? ty).map (·.size) = some n)
    (hx : a.eval x = .pointer (some ⟨g, i * n, none⟩)) (hy : a.eval y = .agg (cs s).toArray)
    (h : ∀ w', w'.ownsRow base e n (.slice (some ⟨g, 0, none⟩) m cap) m (Fl cs (l.set i s)) → Fr (fun k => k = g) w w' → wpList P ops Q rest (a.put o.dst undef) w') : wpList P ops Q (o :: rest) a w := by
  obtain ⟨cur, hg, hfit, hown, hfr⟩ := own_put hn hO hj s
  refine wpList_plain hgd fun _ hK => ?_
  have hst := run_storeCells_at P g (i * n) e (cs s) 0 cur w hg (by rw [hn]; simpa using hfit) (h1 s)
  rw [hn, Nat.add_zero] at hst
  have hr : (storeVar ty ⟨g, i * n, none⟩ (.agg (cs s).toArray)).run P w = .ok () (w.setRow g (cur.toList.take (i * n) ++ cs s ++ cur.toList.drop (i * n + n)).toArray) := by
    cases hq : P.info? ty with
    | none => simp [hq] at hi
    | some inf =>
      have hs : inf.size = n := by simpa [hq] using hi
      simp [storeVar, sizeOf, typeInfo, hq, hs, Value.cells, hn]
      simpa [List.append_assoc] using hst
  unfold Oper.wp execOp
  simp only [ho, Instr.storeAt, Instr.sureAddr, hx, hy, Sem.run_bind, Sem.run_pure, Result.andThen_ok, hr]
  exact hK _ _ (h _ hown hfr)
end
/-- 's[i:]' cleared. -/
theorem run_clear_own {P : Program} {w : World} {base e size n cap g : Nat} {xs : List Value} (h : w.ownsRow base e size (.slice (some ⟨g, 0, none⟩) n cap) n xs) (t : TypeId) (ht : P.underlying t = some (.slice e)) (z : Value) (bytes : Nat) (hinfo : (P.info? e).map (fun i => (i.zero, i.size, i.bytes)) = some (some z, size, bytes)) (hzs : z.cells.size = size) (hsz : 0 < size) (hz1 : ∀ u ∈ z.cells.toList, u.oneCell' = true)
    (i : Nat) (hi : i ≤ n) (a : Option Addr) (c : Nat) (ha : n - i = 0 ∨ a = some ⟨g, i * size, none⟩) (hns : a.isSome = true) (ty : TypeId) :
    ∃ w', (Builtin.clear_ #[t] ty #[.slice a (n - i) c]).run P w = .ok (.tuple #[]) w' ∧ w'.ownsRow base e size (.slice (some ⟨g, 0, none⟩) i cap) i (xs.take (i * size)) ∧ Fr (fun k => k = g) w w' := by
  obtain ⟨b, rfl⟩ := Option.isSome_iff_exists.1 hns
  obtain ⟨cur, b1, b2, b3, b4, b5, b6, b7⟩ := own_block h
  by_cases h0 : n - i = 0
  · have hin : i = n := by omega
    subst hin
    rw [h0]
    refine ⟨w, by simp [Builtin.clear_, run_underlying ht], own_cut h i (Nat.le_refl _), Fr.refl _ _⟩
  · obtain rfl : b = ⟨g, i * size, none⟩ := by rcases ha with h | h; exact absurd h h0; exact Option.some.inj h
    obtain ⟨inf, hi1, hi2, hi3, hi4⟩ := info_parts hinfo
    have hzv : ∀ w, (zeroValue e).run P w = .ok z w := fun w => by simp [zeroValue, typeInfo, hi1, hi2]
    obtain ⟨Z, hZ⟩ : ∃ Z, (Builtin.zeroCells z.cells (n - i)).toList = Z := ⟨_, rfl⟩
    have hZl : Z.length = (n - i) * size := by rw [← hZ, Array.length_toList, size_zeroCells, hzs]
    have hZ1 : ∀ u ∈ Z, u.oneCell' = true := by
      intro u hu
      rw [← hZ, Builtin.zeroCells] at hu
      simp only [Array.toList_map, List.mem_map, hzs] at hu
      obtain ⟨k, -, rfl⟩ := hu
      have hk : k % size < z.cells.size := by rw [hzs]; exact Nat.mod_lt _ hsz
      refine hz1 _ ?_
      rw [getElem!_pos z.cells _ hk]
      exact Array.getElem_mem_toList hk
    have hmul : i * size + (n - i) * size = n * size := by rw [← Nat.add_mul]; congr 1; omega
    have hcap : n * size ≤ cap * size := Nat.mul_le_mul_right _ b3
    have hst := run_storeCells_at P g (i * size) e Z 0 cur w b2 (by rw [hZl]; omega) hZ1
    simp only [Nat.add_zero, hZl] at hst
    obtain ⟨C, hC⟩ : ∃ C, (cur.toList.take (i * size) ++ Z ++ cur.toList.drop (i * size + (n - i) * size)).toArray = C := ⟨_, rfl⟩
    rw [hC] at hst
    have hCs : C.size = cur.size := by rw [← hC]; simp [hZl]; omega
    have hCt : C.toList.take (i * size) = xs.take (i * size) := by
      rw [← hC]
      show ((cur.toList.take (i * size) ++ Z) ++ cur.toList.drop _).take (i * size) = _
      rw [List.append_assoc, List.take_append_of_le_length (by simp; omega), List.take_take, Nat.min_self, ← b6, List.take_take, Nat.min_eq_left (by omega)]
    refine ⟨w.setRow g C, ?_, ?_, (Fr.refl (fun k => k = g) w).setRow (b := g) (.inl rfl) _⟩
    · obtain ⟨k, hk⟩ : ∃ k, n - i = k + 1 := ⟨n - i - 1, by omega⟩
      rw [hk] at hZ ⊢
      simp [Builtin.clear_, run_underlying ht, hzv, hZ, hst]
    · refine ⟨by rw [List.length_take, b7]; omega, .inr ⟨g, cap, C, rfl, b1, setRow_heap w g cur C e (0, 0) b2, by omega, b4, by rw [hCs, b5], hCt⟩⟩

/-- Where a slice begins that was cut at k. -/
def ad (ao : Option Addr) (c k sz : Nat) : Option Addr := if c = k then ao else ao.map (fun x => x.add (k * sz))
theorem ad_zero (ao : Option Addr) (c sz : Nat) : ad ao c 0 sz = ao := by
  unfold ad
  split
  · rfl
  · cases ao with
    | none => rfl
    | some a => simp [Addr.add]
theorem ad_some (g c k sz : Nat) : (ad (some ⟨g, 0, none⟩) c k sz).isSome = true := by unfold ad; split <;> rfl
theorem ad_at (g c k sz : Nat) (h : c ≠ k) : ad (some ⟨g, 0, none⟩) c k sz = some ⟨g, k * sz, none⟩ := by
  unfold ad; rw [if_neg h]; show some ((⟨g, 0, none⟩ : Addr).add (k * sz)) = _; rw [Addr.add_lit, Nat.zero_add]
section
variable {P : Program} (W : World) {t e sz : Nat} (ht : P.underlying t = some (.slice e)) (hsz : (P.info? e).map (·.size) = some sz) (ao : Option Addr) (n cap : Nat)
theorem sb (k c : Nat) (h : k ≤ c) : ∀ x, (Instr.sliceBound (.int .i64 (k : Int)) c x).run P W = .ok k W := fun x => by simp [Instr.sliceBound, asIntOf, h]
include hsz in
theorem szE : (sizeOf e).run P W = .ok sz W := by
  cases hq : P.info? e with
  | none => simp [hq] at hsz
  | some i =>
    have hs : i.size = sz := by simpa [hq] using hsz
    simp [sizeOf, typeInfo, hq, hs]
include ht hsz
theorem run_l (l : Nat) (h1 : l ≤ n) : (Instr.slice t (.slice ao n cap) (some (.int .i64 (l : Int))) none none).run P W = .ok (.slice (ad ao cap l sz) (n - l) (cap - l)) W := by
  simp only [Instr.slice, Sem.run_bind, run_underlying ht, Instr.sliceBounds, Result.andThen_ok, sb W l n h1, Sem.run_pure, szE W hsz]
  rfl
theorem run_h (h : Nat) (h2 : h ≤ cap) : (Instr.slice t (.slice ao n cap) none (some (.int .i64 (h : Int))) none).run P W = .ok (.slice ao h cap) W := by
  have e0 := ad_zero ao cap sz
  unfold ad at e0
  simp only [Instr.slice, Sem.run_bind, run_underlying ht, Instr.sliceBounds, Result.andThen_ok, sb W h cap h2, Sem.run_pure, szE W hsz, e0]
  rfl
theorem run_hm (h m : Nat) (h1 : h ≤ m) (h2 : m ≤ cap) : (Instr.slice t (.slice ao n cap) none (some (.int .i64 (h : Int))) (some (.int .i64 (m : Int)))).run P W = .ok (.slice ao h m) W := by
  have e0 := ad_zero ao m sz
  unfold ad at e0
  simp only [Instr.slice, Sem.run_bind, run_underlying ht, Instr.sliceBounds, Result.andThen_ok, sb W m cap h2, sb W h m h1, Sem.run_pure, szE W hsz, e0]
  rfl
theorem run_lhm (l h m : Nat) (h0 : l ≤ h) (h1 : h ≤ m) (h2 : m ≤ cap) : (Instr.slice t (.slice ao n cap) (some (.int .i64 (l : Int))) (some (.int .i64 (h : Int))) (some (.int .i64 (m : Int)))).run P W = .ok (.slice (ad ao m l sz) (h - l) (m - l)) W := by
  simp only [Instr.slice, Sem.run_bind, run_underlying ht, Instr.sliceBounds, Result.andThen_ok, sb W m cap h2, sb W h m h1, sb W l h h0, Sem.run_pure, szE W hsz]
  rfl
end
/-- What is behind a cut. -/
theorem RowS.drop {α : Type} {n : Nat} {cs : α → List Value} {w : World} {ao : Option Addr} {l : List α} (h : RowS n cs w ao l) (c k : Nat) (hc : l.length ≤ c) : RowS n cs w (ad ao c k n) (l.drop k) := by
  intro hl
  rw [List.length_drop] at hl
  obtain ⟨b, off, rfl, hh⟩ := h (by omega)
  refine ⟨b, off + k * n, ?_, fun i x hx j v hv => ?_⟩
  · unfold ad; rw [if_neg (by omega)]; show some ((⟨b, off, none⟩ : Addr).add (k * n)) = _; rw [Addr.add_lit]
  · rw [List.getElem?_drop] at hx
    have := hh (k + i) x hx j v hv
    rw [Nat.add_mul, ← Nat.add_assoc] at this
    exact this
theorem szK : (Tryz.prog.info? 195).map (·.size) = some 6 := by kernel_rfl
theorem szM : (Tryz.prog.info? 198).map (·.size) = some 3 := by kernel_rfl
end Go.Proofs.YtgbbajeeelgbhaaGreatDoor.Gs

namespace Go.Proofs.YtgbbajeeelgbhaaGreatDoor.Gb
open Go.RowKit Kt Gf Gp Gr Gk Ga Gs
set_option linter.unusedVariables false
set_option linter.unusedSimpArgs false
set_option maxRecDepth 20000

theorem ob {a : Option Addr} {n c m d k : Nat} (h : (Value.slice a n c).ownBlock = some k) : (Value.slice a m d).ownBlock = some k := by cases a <;> exact h
theorem take_snoc {α : Type} {l : List α} {i : Nat} {x : α} (h : l[i]? = some x) : l.take (i + 1) = l.take i ++ [x] := by
  rw [List.take_add_one, h]; rfl
theorem filter_snoc {α : Type} (p : α → Bool) (l : List α) (j : Nat) (x : α) (hx : l[j]? = some x) : (l.take (j + 1)).filter p = (l.take j).filter p ++ (if p x then [x] else []) := by
  rw [take_snoc hx, List.filter_append]
  cases h : p x <;> simp [h]
theorem filter_all {α : Type} (p : α → Bool) (l : List α) (i : Nat) (h : ∀ j y, j < i → l[j]? = some y → p y = false) : (l.take i).filter (fun x => !p x) = l.take i := by
  rw [List.filter_eq_self]
  intro a ha
  obtain ⟨k, hk⟩ := List.getElem?_of_mem ha
  have hk1 := lt_of hk
  rw [List.length_take] at hk1
  rw [List.getElem?_take, if_pos (by omega)] at hk
  simp [h k a (by omega) hk]

/-- What the row holds on the way: i stay of the first j. -/
structure Kp {α : Type} (p : α → Bool) (l dk : List α) (i j : Nat) : Prop where
  lt : i < j
  le : j ≤ l.length
  len : dk.length = l.length
  low : dk.take i = (l.take j).filter (fun x => !p x)
  high : dk.drop j = l.drop j
theorem Kp.start {α : Type} {p : α → Bool} {l : List α} {i : Nat} {x : α} (hx : l[i]? = some x) (hp : p x = true) (h : ∀ j y, j < i → l[j]? = some y → p y = false) : Kp p l l i (i + 1) :=
  ⟨by omega, lt_of hx, rfl, by rw [filter_snoc _ l i x hx, filter_all p l i h]; simp [hp], rfl⟩
theorem Kp.at' {α : Type} {p : α → Bool} {l dk : List α} {i j : Nat} (h : Kp p l dk i j) {x : α} (hx : l[j]? = some x) : dk[j]? = some x := by
  have h1 : (dk.drop j)[0]? = (l.drop j)[0]? := by rw [h.high]
  rw [List.getElem?_drop, List.getElem?_drop, Nat.add_zero, hx] at h1
  exact h1
theorem Kp.high1 {α : Type} {p : α → Bool} {l dk : List α} {i j : Nat} (h : Kp p l dk i j) : dk.drop (j + 1) = l.drop (j + 1) := by
  rw [← List.drop_drop, ← List.drop_drop, h.high]
theorem Kp.skip {α : Type} {p : α → Bool} {l dk : List α} {i j : Nat} (h : Kp p l dk i j) {x : α} (hx : l[j]? = some x) (hp : p x = true) : Kp p l dk i (j + 1) :=
  ⟨by have := h.lt; omega, lt_of hx, h.len, by rw [h.low, filter_snoc _ l j x hx]; simp [hp], h.high1⟩
theorem Kp.keep {α : Type} {p : α → Bool} {l dk : List α} {i j : Nat} (h : Kp p l dk i j) {x : α} (hx : l[j]? = some x) (hp : p x = false) : Kp p l (dk.set i x) (i + 1) (j + 1) := by
  have hlt := h.lt
  have hle := lt_of hx
  have hi : i < dk.length := by rw [h.len]; omega
  refine ⟨by omega, hle, by rw [List.length_set, h.len], ?_, ?_⟩
  · rw [filter_snoc _ l j x hx, ← h.low, take_snoc (x := x) (by rw [List.getElem?_set_self hi]), List.take_set_of_le (Nat.le_refl _)]
    simp [hp]
  · rw [List.drop_set_of_lt (by omega), h.high1]
theorem Kp.done {α : Type} {p : α → Bool} {l dk : List α} {i : Nat} (h : Kp p l dk i l.length) : dk.take i = l.filter (fun x => !p x) ∧ i = (l.filter (fun x => !p x)).length := by
  have h1 := h.low
  rw [List.take_length] at h1
  refine ⟨h1, ?_⟩
  rw [← h1, List.length_take, h.len]
  have := h.lt
  omega
theorem Fl_take {α : Type} {n : Nat} {cs : α → List Value} (hn : ∀ x, (cs x).length = n) (l : List α) (i : Nat) : (Fl cs l).take (i * n) = Fl cs (l.take i) := by
  rcases Nat.lt_or_ge i l.length with h | h
  · have e : Fl cs l = Fl cs (l.take i) ++ Fl cs (l.drop i) := by rw [← Fl_append, List.take_append_drop]
    rw [e]
    exact List.take_left' (by rw [Fl_length hn, List.length_take]; congr 1; omega)
  · rw [List.take_of_length_le h, List.take_of_length_le]
    rw [Fl_length hn]
    exact Nat.mul_le_mul_right n h

set_option maxHeartbeats 4000000 in
theorem delExp1 (w : World) (B : Nat) (ao : Option Addr) (cap : Nat) (l : List K) (hO : w.ownsRow B 195 6 (.slice ao l.length cap) l.length (Fk l)) (hl : l.length ≤ 1000000000) (p : K → Bool) (c0 c1 : Nat)
    (hS : ∀ W x, Fr (fun k => (Value.slice ao l.length cap).ownBlock = some k) w W → x ∈ l → Calls Tryz.prog 362 #[.agg (kC x).toArray, .pointer (some ⟨c0, 0, none⟩), .pointer (some ⟨c1, 0, none⟩)] W fun e w' => e = .returned (.bool (p x)) ∧ Below W.heap.size W w') :
    Calls Tryz.prog 361 #[.slice ao l.length cap, .func (.func 362) #[] #[.pointer (some ⟨c0, 0, none⟩), .pointer (some ⟨c1, 0, none⟩)]] w fun e w' => e = .returned (.slice ao (l.filter (fun x => !p x)).length cap) ∧ w'.ownsRow B 195 6 (.slice ao (l.filter (fun x => !p x)).length cap) (l.filter (fun x => !p x)).length (Fk (l.filter (fun x => !p x))) ∧ Fr (fun k => (Value.slice ao l.length cap).ownBlock = some k) w w' := by
  have hI := idxExp1 w ao cap l (RowS.own kC_len hO) hl p c0 c1 (fun W x hb hx => hS W x (Fr.ofBelow hb) hx)
  have HO := mkH hO
  have HS := mkH hS
  clear hO hS
  rcases idx_spec p l with ⟨he, hall⟩ | ⟨k0, x0, he, hx0, hp0, hall⟩
  · have e1 : idxI p l = -1 := by unfold idxI; rw [he]
    rw [e1] at hI
    have HA := mkH hall
    clear he hall
    go_enter Tryz.func361, Tryz.ntmps361
    go_wp2_with fail
    refine hI.mono ?_
    rintro e w1 ⟨rfl, hb⟩
    clear hI
    go_wp2
    go_ret
    have hf : l.filter (fun x => !p x) = l := by rw [List.filter_eq_self]; intro a ha; simp [HA.out a ha]
    rw [hf]
    exact ⟨rfl, own_below HO.out hb, Fr.ofBelow hb⟩
  · have e1 : idxI p l = (k0 : Int) := by unfold idxI; rw [he]
    have hk0 := lt_of hx0
    obtain ⟨g, hg⟩ := own_some HO.out (by omega)
    rw [e1] at hI
    have hne1 : ((k0 : Int) == -1) = false := beq_eq_false_iff_ne.2 (by omega)
    have HK := mkH (Kp.start hx0 hp0 hall)
    clear he hall hx0 hp0
    subst hg
    obtain ⟨n, hn⟩ : ∃ n, l.length = n := ⟨_, rfl⟩
    have hcn : n ≤ cap := by rw [← hn]; exact own_le HO.out
    have HN := mkH hn
    rw [hn] at HO HS hI hk0 hl ⊢
    clear hn
    have hrl := fun (W : World) (i : Nat) (h : i ≤ n) => run_l (P := Tryz.prog) W Tryz.underlying123 szK (some ⟨g, 0, none⟩) n cap i h
    have hrh := fun (W : World) (i : Nat) (h : i ≤ cap) => run_h (P := Tryz.prog) W Tryz.underlying123 szK (some ⟨g, 0, none⟩) n cap i h
    have HRL := mkH hrl
    have HRH := mkH hrh
    clear hrl hrh
    go_enter Tryz.func361, Tryz.ntmps361
    go_wp2_with fail
    refine hI.mono ?_
    rintro e w1 ⟨rfl, hb⟩
    clear hI
    have HO1 := mkH (own_below HO.out hb)
    have HF1 : Hid (Fr (fun k => (Value.slice (some ⟨g, 0, none⟩) n cap).ownBlock = some k) w w1) := Fr.ofBelow hb
    clear HO hb
    go_wp2_with fail
    go_loopg [5, 6, 7] n (fun gg s5 s6 _ wr => ∃ (i j : Nat) (dk : List K), s5 = .int .i64 i ∧ s6 = .int .i64 j ∧ j ≤ n ∧ n - j ≤ gg ∧ Hid (Kp p l dk i j) ∧ Hid (wr.ownsRow B 195 6 (.slice (some ⟨g, 0, none⟩) n cap) n (Fk dk)) ∧ Hid (Fr (fun k => (Value.slice (some ⟨g, 0, none⟩) n cap).ownBlock = some k) w wr))
    case atStart => exact ⟨k0, k0 + 1, l, rfl, by go_num, by omega, by omega, HK, HO1, HF1⟩
    case round =>
      clear HK HO1 HF1
      obtain ⟨i, j, dk, rfl, rfl, hjn, hgg, HKp, HOr, HFr⟩ := hrel
      have hij := HKp.out.lt
      by_cases hlt : j < n
      · obtain ⟨x, hx⟩ := some_of (l := l) (i := j) (by rw [HN.out]; exact hlt)
        have hdx := HKp.out.at' hx
        have hrow : RowK wr (some ⟨g, 0, none⟩) dk := RowS.own kC_len (show wr.ownsRow B 195 6 (.slice (some ⟨g, 0, none⟩) n cap) dk.length (Fl kC dk) by rw [HKp.out.len, HN.out]; exact HOr.out)
        obtain ⟨b, off, hbo, z0, z1, z2, z3, z4, z5⟩ := atK hrow hdx
        simp only [Option.some.injEq, Addr.mk.injEq] at hbo
        obtain ⟨rfl, rfl, -⟩ := hbo
        simp only [Nat.zero_add] at z0 z1 z2 z3 z4 z5
        have HX := mkH hx
        have hpx : ∃ t, p x = t := ⟨_, rfl⟩
        obtain ⟨t, ht⟩ := hpx
        have hcl := HS.out (wr.alloc (.cells (kC x).toArray 195)) x (HFr.out.alloc _) (List.mem_of_getElem? hx)
        rw [ht] at hcl
        have HT := mkH ht
        have hbox := Bx.new wr (kC x).toArray 195
        have hnw : wr.heap.size ≤ (wr.alloc (.cells (kC x).toArray 195)).heap.size := by simp
        have HFA := mkH (HFr.out.alloc (.cells (kC x).toArray 195))
        have HOA := mkH (own_below HOr.out ((Below.refl _ wr).alloc (Nat.le_refl _) (.cells (kC x).toArray 195)))
        have HXX := mkH (show ∃ y, y = x from ⟨x, rfl⟩)
        clear hx ht hrow hdx
        obtain ⟨q1, q2, q3, q4, q5, q6⟩ := x
        simp only [kC] at hcl hbox HFA HOA z0 z1 z2 z3 z4 z5
        have HC := mkH hcl
        have HBX := mkH hbox
        have hltz : (j : Int) < (n : Int) := by omega
        clear hcl hbox
        go_wp2_with fail
        refine HC.out.mono ?_
        rintro e w2 ⟨rfl, hb2⟩
        have HO2 := mkH (own_below HOA.out hb2)
        have HF2 := mkH (HFA.out.trans (Fr.ofBelow (F := fun _ => False) hb2) (fun i h => h.elim))
        have hB2 := HBX.out.bel hb2
        have y0 := hB2.cell 0 _ rfl; have y1 := hB2.cell 1 _ rfl; have y2 := hB2.cell 2 _ rfl; have y3 := hB2.cell 3 _ rfl; have y4 := hB2.cell 4 _ rfl; have y5 := hB2.cell 5 _ rfl
        clear HC hb2 HOA HFA HBX hB2 z0 z1 z2 z3 z4 z5 HOr HFr
        have hin : i < n := by omega
        have hinz : (i : Int) < (n : Int) := by omega
        obtain ⟨r, hr⟩ := some_of (l := dk) (i := i) (by rw [HKp.out.len, HN.out]; exact hin)
        have HRr := mkH hr
        clear hr
        cases t with
        | true =>
          go_wp2
          go_roundg (n - (j + 1))
          case measure => omega
          case rel => exact ⟨i, j + 1, dk, rfl, by go_num, by omega, Nat.le_refl _, HKp.out.skip HX.out HT.out, HO2, HF2⟩
        | false =>
          go_wp2_with (refine wpList_st_own (P := Tryz.prog) kC_len kC_one rfl 195 (.tmp 33) (.tmp 32) rfl B 195 g cap i n dk HO2.out r ⟨q1, q2, q3, q4, q5, q6⟩ HRr.out szK rfl rfl ?_; intro w3 ho3 hf3)
          go_roundg (n - (j + 1))
          case measure => omega
          case rel => exact ⟨i + 1, j + 1, dk.set i ⟨q1, q2, q3, q4, q5, q6⟩, by go_num, by go_num, by omega, Nat.le_refl _, HKp.out.keep HX.out HT.out, ho3, HF2.out.trans hf3 (fun k hk => .inl (by subst hk; rfl))⟩
      · obtain rfl : j = n := by omega
        have hltz : ¬ (j : Int) < (j : Int) := by omega
        have hKd := HKp.out
        rw [← HN.out] at hKd
        obtain ⟨hd1, hd2⟩ := hKd.done
        have hsl := fun W => HRL.out W i (by omega)
        have hsh := fun W => HRH.out W i (by omega)
        obtain ⟨w4, hcl, ho4, hf4⟩ := run_clear_own (P := Tryz.prog) HOr.out 123 Tryz.underlying123 (.agg #[.int .i64 0, .int .i64 0, .int .i64 0, .int .i64 0, .int .i64 0, .string ByteArray.empty]) 56 infoK rfl (by decide) (by intro u hu; simp [Value.cells] at hu; rcases hu with rfl | rfl <;> rfl) i (by omega) (ad (some ⟨g, 0, none⟩) cap i 6) (cap - i) (by rcases Nat.eq_or_lt_of_le (show i ≤ cap by omega) with h | h; exact .inl (by omega); exact .inr (ad_at g cap i 6 (by omega))) (ad_some _ _ _ _) 0
        have HO4 := mkH ho4
        have HF4 := mkH (HFr.out.trans hf4 (fun k hk => .inl (by subst hk; rfl)))
        have HD := mkH (And.intro hd1 hd2)
        generalize ad (some ⟨g, 0, none⟩) cap i 6 = aq at hsl hcl
        clear hd1 hd2 hKd ho4 hf4 HRL HRH HOr HFr
        go_wp2
        go_ret
        refine ⟨by rw [← HD.out.2]; rfl, ?_, HF4⟩
        have h5 := HO4.out
        rw [Fl_take kC_len, HD.out.1] at h5
        rw [← HD.out.2]
        exact h5

set_option maxHeartbeats 4000000 in
theorem delExp2 (w : World) (B : Nat) (ao : Option Addr) (cap : Nat) (l : List M) (hO : w.ownsRow B 198 3 (.slice ao l.length cap) l.length (Fm l)) (hl : l.length ≤ 1000000000) (p : M → Bool) (c0 : Nat)
    (hS : ∀ W x, Fr (fun k => (Value.slice ao l.length cap).ownBlock = some k) w W → x ∈ l → Calls Tryz.prog 364 #[.agg (mC x).toArray, .pointer (some ⟨c0, 0, none⟩)] W fun e w' => e = .returned (.bool (p x)) ∧ Below W.heap.size W w') :
    Calls Tryz.prog 363 #[.slice ao l.length cap, .func (.func 364) #[] #[.pointer (some ⟨c0, 0, none⟩)]] w fun e w' => e = .returned (.slice ao (l.filter (fun x => !p x)).length cap) ∧ w'.ownsRow B 198 3 (.slice ao (l.filter (fun x => !p x)).length cap) (l.filter (fun x => !p x)).length (Fm (l.filter (fun x => !p x))) ∧ Fr (fun k => (Value.slice ao l.length cap).ownBlock = some k) w w' := by
  have hI := idxExp2 w ao cap l (RowS.own mC_len hO) hl p c0 (fun W x hb hx => hS W x (Fr.ofBelow hb) hx)
  have HO := mkH hO
  have HS := mkH hS
  clear hO hS
  rcases idx_spec p l with ⟨he, hall⟩ | ⟨k0, x0, he, hx0, hp0, hall⟩
  · have e1 : idxI p l = -1 := by unfold idxI; rw [he]
    rw [e1] at hI
    have HA := mkH hall
    clear he hall
    go_enter Tryz.func363, Tryz.ntmps363
    go_wp2_with fail
    refine hI.mono ?_
    rintro e w1 ⟨rfl, hb⟩
    clear hI
    go_wp2
    go_ret
    have hf : l.filter (fun x => !p x) = l := by rw [List.filter_eq_self]; intro a ha; simp [HA.out a ha]
    rw [hf]
    exact ⟨rfl, own_below HO.out hb, Fr.ofBelow hb⟩
  · have e1 : idxI p l = (k0 : Int) := by unfold idxI; rw [he]
    have hk0 := lt_of hx0
    obtain ⟨g, hg⟩ := own_some HO.out (by omega)
    rw [e1] at hI
    have hne1 : ((k0 : Int) == -1) = false := beq_eq_false_iff_ne.2 (by omega)
    have HK := mkH (Kp.start hx0 hp0 hall)
    clear he hall hx0 hp0
    subst hg
    obtain ⟨n, hn⟩ : ∃ n, l.length = n := ⟨_, rfl⟩
    have hcn : n ≤ cap := by rw [← hn]; exact own_le HO.out
    have HN := mkH hn
    rw [hn] at HO HS hI hk0 hl ⊢
    clear hn
    have hrl := fun (W : World) (i : Nat) (h : i ≤ n) => run_l (P := Tryz.prog) W Tryz.underlying124 szM (some ⟨g, 0, none⟩) n cap i h
    have hrh := fun (W : World) (i : Nat) (h : i ≤ cap) => run_h (P := Tryz.prog) W Tryz.underlying124 szM (some ⟨g, 0, none⟩) n cap i h
    have HRL := mkH hrl
    have HRH := mkH hrh
    clear hrl hrh
    go_enter Tryz.func363, Tryz.ntmps363
    go_wp2_with fail
    refine hI.mono ?_
    rintro e w1 ⟨rfl, hb⟩
    clear hI
    have HO1 := mkH (own_below HO.out hb)
    have HF1 : Hid (Fr (fun k => (Value.slice (some ⟨g, 0, none⟩) n cap).ownBlock = some k) w w1) := Fr.ofBelow hb
    clear HO hb
    go_wp2_with fail
    go_loopg [5, 6, 7] n (fun gg s5 s6 _ wr => ∃ (i j : Nat) (dk : List M), s5 = .int .i64 i ∧ s6 = .int .i64 j ∧ j ≤ n ∧ n - j ≤ gg ∧ Hid (Kp p l dk i j) ∧ Hid (wr.ownsRow B 198 3 (.slice (some ⟨g, 0, none⟩) n cap) n (Fm dk)) ∧ Hid (Fr (fun k => (Value.slice (some ⟨g, 0, none⟩) n cap).ownBlock = some k) w wr))
    case atStart => exact ⟨k0, k0 + 1, l, rfl, by go_num, by omega, by omega, HK, HO1, HF1⟩
    case round =>
      clear HK HO1 HF1
      obtain ⟨i, j, dk, rfl, rfl, hjn, hgg, HKp, HOr, HFr⟩ := hrel
      have hij := HKp.out.lt
      by_cases hlt : j < n
      · obtain ⟨x, hx⟩ := some_of (l := l) (i := j) (by rw [HN.out]; exact hlt)
        have hdx := HKp.out.at' hx
        have hrow : RowM wr (some ⟨g, 0, none⟩) dk := RowS.own mC_len (show wr.ownsRow B 198 3 (.slice (some ⟨g, 0, none⟩) n cap) dk.length (Fl mC dk) by rw [HKp.out.len, HN.out]; exact HOr.out)
        obtain ⟨b, off, hbo, z0, z1, z2⟩ := atM hrow hdx
        simp only [Option.some.injEq, Addr.mk.injEq] at hbo
        obtain ⟨rfl, rfl, -⟩ := hbo
        simp only [Nat.zero_add] at z0 z1 z2
        have HX := mkH hx
        have hpx : ∃ t, p x = t := ⟨_, rfl⟩
        obtain ⟨t, ht⟩ := hpx
        have hcl := HS.out (wr.alloc (.cells (mC x).toArray 198)) x (HFr.out.alloc _) (List.mem_of_getElem? hx)
        rw [ht] at hcl
        have HT := mkH ht
        have hbox := Bx.new wr (mC x).toArray 198
        have hnw : wr.heap.size ≤ (wr.alloc (.cells (mC x).toArray 198)).heap.size := by simp
        have HFA := mkH (HFr.out.alloc (.cells (mC x).toArray 198))
        have HOA := mkH (own_below HOr.out ((Below.refl _ wr).alloc (Nat.le_refl _) (.cells (mC x).toArray 198)))
        have HXX := mkH (show ∃ y, y = x from ⟨x, rfl⟩)
        clear hx ht hrow hdx
        obtain ⟨q1, q2, q3⟩ := x
        simp only [mC] at hcl hbox HFA HOA z0 z1 z2
        have HC := mkH hcl
        have HBX := mkH hbox
        have hltz : (j : Int) < (n : Int) := by omega
        clear hcl hbox
        go_wp2_with fail
        refine HC.out.mono ?_
        rintro e w2 ⟨rfl, hb2⟩
        have HO2 := mkH (own_below HOA.out hb2)
        have HF2 := mkH (HFA.out.trans (Fr.ofBelow (F := fun _ => False) hb2) (fun i h => h.elim))
        have hB2 := HBX.out.bel hb2
        have y0 := hB2.cell 0 _ rfl; have y1 := hB2.cell 1 _ rfl; have y2 := hB2.cell 2 _ rfl
        clear HC hb2 HOA HFA HBX hB2 z0 z1 z2 HOr HFr
        have hin : i < n := by omega
        have hinz : (i : Int) < (n : Int) := by omega
        obtain ⟨r, hr⟩ := some_of (l := dk) (i := i) (by rw [HKp.out.len, HN.out]; exact hin)
        have HRr := mkH hr
        clear hr
        cases t with
        | true =>
          go_wp2
          go_roundg (n - (j + 1))
          case measure => omega
          case rel => exact ⟨i, j + 1, dk, rfl, by go_num, by omega, Nat.le_refl _, HKp.out.skip HX.out HT.out, HO2, HF2⟩
        | false =>
          go_wp2_with (refine wpList_st_own (P := Tryz.prog) mC_len mC_one rfl 198 (.tmp 33) (.tmp 32) rfl B 198 g cap i n dk HO2.out r ⟨q1, q2, q3⟩ HRr.out szM rfl rfl ?_; intro w3 ho3 hf3)
          go_roundg (n - (j + 1))
          case measure => omega
          case rel => exact ⟨i + 1, j + 1, dk.set i ⟨q1, q2, q3⟩, by go_num, by go_num, by omega, Nat.le_refl _, HKp.out.keep HX.out HT.out, ho3, HF2.out.trans hf3 (fun k hk => .inl (by subst hk; rfl))⟩
      · obtain rfl : j = n := by omega
        have hltz : ¬ (j : Int) < (j : Int) := by omega
        have hKd := HKp.out
        rw [← HN.out] at hKd
        obtain ⟨hd1, hd2⟩ := hKd.done
        have hsl := fun W => HRL.out W i (by omega)
        have hsh := fun W => HRH.out W i (by omega)
        obtain ⟨w4, hcl, ho4, hf4⟩ := run_clear_own (P := Tryz.prog) HOr.out 124 Tryz.underlying124 (.agg #[.string ByteArray.empty, .int .i64 0, .int .i64 0]) 32 infoM rfl (by decide) (by intro u hu; simp [Value.cells] at hu; rcases hu with rfl | rfl <;> rfl) i (by omega) (ad (some ⟨g, 0, none⟩) cap i 3) (cap - i) (by rcases Nat.eq_or_lt_of_le (show i ≤ cap by omega) with h | h; exact .inl (by omega); exact .inr (ad_at g cap i 3 (by omega))) (ad_some _ _ _ _) 0
        have HO4 := mkH ho4
        have HF4 := mkH (HFr.out.trans hf4 (fun k hk => .inl (by subst hk; rfl)))
        have HD := mkH (And.intro hd1 hd2)
        generalize ad (some ⟨g, 0, none⟩) cap i 3 = aq at hsl hcl
        clear hd1 hd2 hKd ho4 hf4 HRL HRH HOr HFr
        go_wp2
        go_ret
        refine ⟨by rw [← HD.out.2]; rfl, ?_, HF4⟩
        have h5 := HO4.out
        rw [Fl_take mC_len, HD.out.1] at h5
        rw [← HD.out.2]
        exact h5

set_option maxHeartbeats 2000000 in
theorem Expire_any (w : World) (g : G) (ka : Option Addr) (kc : Nat) (ma : Option Addr) (mc : Nat) (h : Gl w g ka kc ma mc) (hk : g.kept.length ≤ 1000000000) (hm : g.marks.length ≤ 1000000000) (ho : OkG g) (now keep : Int) (hn : Sm now) :
    Calls Tryz.prog 328 #[.agg (gC g ka kc ma mc), .int .i64 now, .int .i64 keep] w fun e w' => ∃ ka' kc' ma' mc', e = .returned (.agg (gC (expire g now keep) ka' kc' ma' mc')) ∧ Go' w.heap.size w' (expire g now keep) ka' kc' ma' mc' ∧ Below w.heap.size w w' := by
  have HL := mkH h
  have HOk := mkH ho
  obtain ⟨nx, kp, mk, at'⟩ := g
  simp only [gC] at *
  obtain ⟨o1, ho1⟩ : ∃ o, Obj.cells #[Value.int .i64 nx, .slice ka kp.length kc, .slice ma mk.length mc, .string at'] 126 = o := ⟨_, rfl⟩
  have hA := (((Below.refl w.heap.size w).alloc (Nat.le_refl _) (.cells #[Value.int .i64 nx, .slice ka kp.length kc, .slice ma mk.length mc, .string at'] 126)).alloc (by simp) (.cells #[.int .i64 now] 3)).alloc (by simp; omega) (.cells #[.int .i64 keep] 3) |>.alloc (by simp; omega) (.cells #[.int .i64 0, .slice none 0 0, .slice none 0 0, .string ⟨#[]⟩] 126)
  have hc1 := ((Bx.new1 w (.cells #[Value.int .i64 nx, .slice ka kp.length kc, .slice ma mk.length mc, .string at'] 126) #[.int .i64 now] 3).alloc (.cells #[.int .i64 keep] 3)).alloc (.cells #[.int .i64 0, .slice none 0 0, .slice none 0 0, .string ⟨#[]⟩] 126)
  have hc2 := (Bx.new2 w (.cells #[Value.int .i64 nx, .slice ka kp.length kc, .slice ma mk.length mc, .string at'] 126) (.cells #[.int .i64 now] 3) #[.int .i64 keep] 3).alloc (.cells #[.int .i64 0, .slice none 0 0, .slice none 0 0, .string ⟨#[]⟩] 126)
  have hc3 := Bx.new3 w (.cells #[Value.int .i64 nx, .slice ka kp.length kc, .slice ma mk.length mc, .string at'] 126) (.cells #[.int .i64 now] 3) (.cells #[.int .i64 keep] 3) #[.int .i64 0, .slice none 0 0, .slice none 0 0, .string ⟨#[]⟩] 126
  have hsz : ((((w.alloc (.cells #[Value.int .i64 nx, .slice ka kp.length kc, .slice ma mk.length mc, .string at'] 126)).alloc (.cells #[.int .i64 now] 3)).alloc (.cells #[.int .i64 keep] 3)).alloc (.cells #[.int .i64 0, .slice none 0 0, .slice none 0 0, .string ⟨#[]⟩] 126)).heap.size = w.heap.size + 4 := by simp
  have HA := mkH hA
  have HC1 := mkH hc1
  have HC2 := mkH hc2
  have HC3 := mkH hc3
  have HSZ := mkH hsz
  clear h ho ho1 hA hc1 hc2 hc3 hsz
  go_enter Tryz.func328, Tryz.ntmps328
  go_wp2_with fail
  generalize (((w.alloc (.cells #[Value.int .i64 nx, .slice ka kp.length kc, .slice ma mk.length mc, .string at'] 126)).alloc (.cells #[.int .i64 now] 3)).alloc (.cells #[.int .i64 keep] 3)).alloc (.cells #[.int .i64 0, .slice none 0 0, .slice none 0 0, .string ⟨#[]⟩] 126) = w0 at *
  obtain ⟨R, hR⟩ : ∃ R, w.heap.size + 1 + 1 + 1 = R := ⟨_, rfl⟩
  rw [hR] at HC3 ⊢
  obtain ⟨C2, hC2⟩ : ∃ R, w.heap.size + 1 + 1 = R := ⟨_, rfl⟩
  rw [hC2] at HC2 ⊢
  obtain ⟨C1, hC1⟩ : ∃ R, w.heap.size + 1 = R := ⟨_, rfl⟩
  rw [hC1] at HC1 ⊢
  have HN := mkH (And.intro hC1 (And.intro hC2 hR))
  clear hR hC2 hC1
  refine (copyOf_any w0 ⟨nx, kp, mk, at'⟩ ka kc ma mc (HL.out.below HA.out) hk hm).mono ?_
  rintro e w1 ⟨ka1, kc1, ma1, mc1, rfl, hg1, hb1⟩
  simp only [gC]
  have hB := Bx.new w1 #[Value.int .i64 nx, .slice ka1 kp.length kc1, .slice ma1 mk.length mc1, .string at'] 126
  have hal : Below w1.heap.size w1 (w1.alloc (.cells #[Value.int .i64 nx, .slice ka1 kp.length kc1, .slice ma1 mk.length mc1, .string at'] 126)) := (Below.refl _ w1).alloc (Nat.le_refl _) _
  have hkd1 := own_kinds hg1.k hg1.m (by decide)
  have hlt1 : ∀ k, (Value.slice ka1 kp.length kc1).ownBlock = some k → w0.heap.size ≤ k ∧ k < w1.heap.size := fun k hk => hg1.k.lt k hk
  have hlt2 : ∀ k, (Value.slice ma1 mk.length mc1).ownBlock = some k → w0.heap.size ≤ k ∧ k < w1.heap.size := fun k hk => hg1.m.lt k hk
  have hsz1 := hb1.size
  have hS0 := HSZ.out
  obtain ⟨n1, n2, n3⟩ := HN.out
  have HB := mkH hB
  have HK2 := mkH (own_below hg1.k hal)
  have HM2 := mkH (own_below hg1.m hal)
  have HC1' := mkH ((HC1.out.bel hb1).alloc (.cells #[Value.int .i64 nx, .slice ka1 kp.length kc1, .slice ma1 mk.length mc1, .string at'] 126))
  have HC2' := mkH ((HC2.out.bel hb1).alloc (.cells #[Value.int .i64 nx, .slice ka1 kp.length kc1, .slice ma1 mk.length mc1, .string at'] 126))
  have HC3' := mkH ((HC3.out.bel hb1).alloc (.cells #[Value.int .i64 nx, .slice ka1 kp.length kc1, .slice ma1 mk.length mc1, .string at'] 126))
  have HA1 : Hid (Below w.heap.size w (w1.alloc (.cells #[Value.int .i64 nx, .slice ka1 kp.length kc1, .slice ma1 mk.length mc1, .string at'] 126))) := (HA.out.trans (hb1.mono (by omega))).alloc (by omega) _
  clear hg1 hb1 hB hal HC1 HC2 HC3 HA
  go_wp2_with fail
  generalize w1.alloc (.cells #[Value.int .i64 nx, .slice ka1 kp.length kc1, .slice ma1 mk.length mc1, .string at'] 126) = w2 at *
  have hKk : ∀ W, Fr (fun k => (Value.slice ka1 kp.length kc1).ownBlock = some k) w2 W → ∀ b, (b < w0.heap.size ∨ w1.heap.size ≤ b) → ∀ cs t, Bx w2 b cs t → Bx W b cs t := fun W hf b hb cs t hx => hx.fr hf (fun hk => by have := hlt1 b hk; omega)
  refine (delExp1 w2 w0.heap.size ka1 kc1 kp HK2.out hk (fun m => decide (keep ≤ now - m.sent)) C1 C2 (fun W x hf hx => expire1_any W x C1 C2 now keep ((hKk W hf C1 (by omega) _ _ HC1'.out).cell 0 _ rfl) ((hKk W hf C2 (by omega) _ _ HC2'.out).cell 0 _ rfl) hn (HOk.out.2.1 x hx))).mono ?_
  rintro e w3 ⟨rfl, ho3, hf3⟩
  have hO3 := hKk w3 hf3 w1.heap.size (by omega) _ _ HB.out
  have hR3 := hKk w3 hf3 R (by omega) _ _ HC3'.out
  have hc13 := hKk w3 hf3 C1 (by omega) _ _ HC1'.out
  have hm3 := own_fr HM2.out hf3 (fun k hk hk2 => hkd1 k hk2 hk)
  have HA3 : Hid (Below w.heap.size w w3) := below_fr HA1.out hf3 (fun k hk => by have := hlt1 k hk; omega) (Nat.le_refl _)
  obtain ⟨d0, d1, d2, d3, f0, f1, f2, f3⟩ := hO3.four
  obtain ⟨L1, hL1⟩ : ∃ L, kp.filter (fun m => !decide (keep ≤ now - m.sent)) = L := ⟨_, rfl⟩
  rw [hL1] at ho3
  simp only [hL1]
  have HL1 := mkH hL1
  have hlt3 : ∀ k, (Value.slice ka1 L1.length kc1).ownBlock = some k → w0.heap.size ≤ k ∧ k < w1.heap.size := fun k hk => hlt1 k (ob hk)
  have HO3 := mkH hO3
  have HR3 := mkH hR3
  have HC13 := mkH hc13
  have HM3 := mkH hm3
  have HK3 := mkH ho3
  clear hO3 hR3 hc13 hm3 ho3 hf3 hKk HB HK2 HM2 HC1' HC2' HC3' HA1 hL1
  go_wp2_with fail
  have hO4 := HO3.out.s1 (.slice ka1 L1.length kc1)
  have hF4 := HO3.out.frset 1 (.slice ka1 L1.length kc1)
  have hR4 := HR3.out.fr hF4 (by omega)
  have hC4 := HC13.out.fr hF4 (by omega)
  have hK4 := own_fr HK3.out hF4 (fun k hk hk2 => by have := hlt3 k hk; omega)
  have hM4 := own_fr HM3.out hF4 (fun k hk hk2 => by have := hlt2 k hk; omega)
  have HA4 : Hid (Below w.heap.size w (w3.setCell ⟨w1.heap.size, 1, none⟩ (.slice ka1 L1.length kc1))) := below_fr HA3.out hF4 (fun k hk => by omega) (Nat.le_refl _)
  generalize w3.setCell ⟨w1.heap.size, 1, none⟩ (.slice ka1 L1.length kc1) = w4 at *
  clear HO3 HR3 HC13 HM3 HK3 HA3 hF4 d0 d1 d2 d3 f0 f1 f2 f3
  have hKk : ∀ W, Fr (fun k => (Value.slice ma1 mk.length mc1).ownBlock = some k) w4 W → ∀ b, (b < w0.heap.size ∨ w1.heap.size ≤ b) → ∀ cs t, Bx w4 b cs t → Bx W b cs t := fun W hf b hb cs t hx => hx.fr hf (fun hk => by have := hlt2 b hk; omega)
  refine (delExp2 w4 w0.heap.size ma1 mc1 mk hM4 hm (fun m => decide (300 ≤ now - m.ti)) C1 (fun W x hf hx => expire2_any W x C1 now ((hKk W hf C1 (by omega) _ _ hC4).cell 0 _ rfl) hn (HOk.out.2.2 x hx))).mono ?_
  rintro e w5 ⟨rfl, ho5, hf5⟩
  have hO5 := hKk w5 hf5 w1.heap.size (by omega) _ _ hO4
  have hR5 := hKk w5 hf5 R (by omega) _ _ hR4
  have hk5 := own_fr hK4 hf5 (fun k hk hk2 => hkd1 k (ob hk) hk2)
  have HA5 : Hid (Below w.heap.size w w5) := below_fr HA4.out hf5 (fun k hk => by have := hlt2 k hk; omega) (Nat.le_refl _)
  obtain ⟨d0, d1, d2, d3, f0, f1, f2, f3⟩ := hO5.four
  obtain ⟨e0, e1, e2, e3, g0, g1, g2, g3⟩ := hR5.four
  obtain ⟨L2, hL2⟩ : ∃ L, mk.filter (fun m => !decide (300 ≤ now - m.ti)) = L := ⟨_, rfl⟩
  rw [hL2] at ho5
  simp only [hL2]
  have HL2 := mkH hL2
  have hlt5 : ∀ k, (Value.slice ma1 L2.length mc1).ownBlock = some k → w0.heap.size ≤ k ∧ k < w1.heap.size := fun k hk => hlt2 k (ob hk)
  have HO5 := mkH hO5
  have HR5 := mkH hR5
  have HM5 := mkH ho5
  have HK5 := mkH hk5
  have hne : ¬ w1.heap.size = R := by omega
  have hne2 : ¬ R = w1.heap.size := by omega
  clear hO5 hR5 ho5 hk5 hf5 hKk hL2 hO4 hR4 hC4 hK4 hM4 HA4
  go_wp2
  have hO6 := HO5.out.s2 (.slice ma1 L2.length mc1)
  have hF6 := HO5.out.frset 2 (.slice ma1 L2.length mc1)
  have hR6 := HR5.out.fr hF6 (by omega)
  generalize w5.setCell ⟨w1.heap.size, 2, none⟩ (.slice ma1 L2.length mc1) = w6 at *
  obtain ⟨hR7, hF7⟩ := hR6.sAll (v0 := .int .i64 nx) (v1 := .slice ka1 L1.length kc1) (v2 := .slice ma1 L2.length mc1) (v3 := .string at')
  generalize (((w6.setCell ⟨R, 0, none⟩ (.int .i64 nx)).setCell ⟨R, 1, none⟩ (.slice ka1 L1.length kc1)).setCell ⟨R, 2, none⟩ (.slice ma1 L2.length mc1)).setCell ⟨R, 3, none⟩ (.string at') = w7 at *
  have hex : expire ⟨nx, kp, mk, at'⟩ now keep = ⟨nx, L1, L2, at'⟩ := by unfold expire; rw [← HL1.out, ← HL2.out]
  rw [hex]
  refine bodyPost_ret (res_c rfl _ _ _ rfl (loadG hR7)) rfl ⟨ka1, kc1, ma1, mc1, rfl, ⟨?_, ?_⟩, ?_⟩
  · exact own_mono (own_fr (own_fr HK5.out hF6 (fun k hk hkw => by have := hlt3 k hk; omega)) hF7 (fun k hk hkw => by have := hlt3 k hk; omega)) (by omega)
  · exact own_mono (own_fr (own_fr HM5.out hF6 (fun k hk hkw => by have := hlt5 k hk; omega)) hF7 (fun k hk hkw => by have := hlt5 k hk; omega)) (by omega)
  · exact below_fr (below_fr HA5.out hF6 (by intro k hk; omega) (Nat.le_refl _)) hF7 (by intro k hk; omega) (Nat.le_refl _)
end Go.Proofs.YtgbbajeeelgbhaaGreatDoor.Gb
