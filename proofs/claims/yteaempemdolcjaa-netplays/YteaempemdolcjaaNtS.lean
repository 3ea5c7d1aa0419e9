/-
  Rows of structs that the call owns: one struct stored, one cell stored, the rest cleared. Nothing of the program.
-/
import Derived.Test.YteaempemdolcjaaNtR
namespace Go.Proofs.Yteaempemdolcjaa.Ns
open Go.RowKit Kt Gf Nr Gk
set_option linter.unusedVariables false
set_option linter.unusedSimpArgs false
set_option maxRecDepth 20000

section
variable {w : World} {base e size n cap g : Nat} {xs : List Value}
/-- The block of a row that is not nil. -/
theorem own_block (h : w.ownsRow base e size (.slice (some ⟨g, 0, none⟩) n cap) n xs) : ∃ cur : Array Value, base ≤ g ∧ w.heap[g]? = some (.cells cur e (0, 0)) ∧ n ≤ cap ∧ cap ≤ maxLen ∧ cur.size = cap * size ∧ cur.toList.take (n * size) = xs ∧ xs.length = n * size := by
  rcases h.2 with ⟨e1, _⟩ | ⟨g', c, cur, e1, h1, h2, h3, h4, h5, h6⟩
  · cases e1
  · simp only [Value.slice.injEq, Option.some.injEq, Addr.mk.injEq] at e1
    obtain ⟨⟨rfl, -, -⟩, -, rfl⟩ := e1
    exact ⟨cur, h1, h2, h3, h4, h5, h6, h.1⟩
theorem own_some {ao : Option Addr} (h : w.ownsRow base e size (.slice ao n cap) n xs) (hn : 0 < n) : ∃ g, ao = some ⟨g, 0, none⟩ := by
  rcases h.2 with ⟨e1, h0⟩ | ⟨g', c, cur, e1, _⟩
  · omega
  · simp only [Value.slice.injEq] at e1; exact ⟨g', e1.1⟩
/-- A piece of the row turned. -/
theorem own_splice (h : w.ownsRow base e size (.slice (some ⟨g, 0, none⟩) n cap) n xs) (C : Array Value) (ys : List Value) (hC : ∀ cur, w.heap[g]? = some (.cells cur e (0, 0)) → C.size = cur.size ∧ (cur.toList.take (n * size) = xs → C.toList.take (n * size) = ys)) (hy : ys.length = xs.length) :
    (w.setRow g C).ownsRow base e size (.slice (some ⟨g, 0, none⟩) n cap) n ys ∧ Fr (fun k => k = g) w (w.setRow g C) := by
  obtain ⟨cur, h1, h2, h3, h4, h5, h6, h7⟩ := own_block h
  obtain ⟨c1, c2⟩ := hC cur h2
  refine ⟨⟨by rw [hy, h7], .inr ⟨g, cap, C, rfl, h1, setRow_heap w g cur C e (0, 0) h2, h3, h4, by rw [c1, h5], c2 h6⟩⟩, (Fr.refl (fun k => k = g) w).setRow (b := g) (.inl rfl) _⟩
theorem own_cut (h : w.ownsRow base e size (.slice (some ⟨g, 0, none⟩) n cap) n xs) (m : Nat) (hm : m ≤ n) : w.ownsRow base e size (.slice (some ⟨g, 0, none⟩) m cap) m (xs.take (m * size)) := by
  obtain ⟨cur, h1, h2, h3, h4, h5, h6, h7⟩ := own_block h
  have hmn : m * size ≤ n * size := Nat.mul_le_mul_right _ hm
  refine ⟨by rw [List.length_take, h7]; omega, .inr ⟨g, cap, cur, rfl, h1, h2, by omega, h4, h5, ?_⟩⟩
  rw [← h6, List.take_take, Nat.min_eq_left hmn]
end

section
variable {α : Type} {n : Nat} {cs : α → List Value} (hn : ∀ x, (cs x).length = n)
include hn
theorem Fl_split (l : List α) (i : Nat) (x : α) (hx : l[i]? = some x) : Fl cs l = Fl cs (l.take i) ++ (cs x ++ Fl cs (l.drop (i + 1))) ∧ (Fl cs (l.take i)).length = i * n := by
  have hi := lt_of hx
  have e : l = l.take i ++ ([x] ++ l.drop (i + 1)) := by
    obtain ⟨h1, h2⟩ := List.getElem?_eq_some_iff.1 hx
    rw [List.singleton_append, ← h2, List.getElem_cons_drop h1, List.take_append_drop]
  refine ⟨?_, by rw [Fl_length hn, List.length_take]; congr 1; omega⟩
  conv => lhs; rw [e]
  rw [Fl_append, Fl_append, Fl_single]
theorem Fl_set (l : List α) (i : Nat) (x y : α) (hx : l[i]? = some x) : Fl cs (l.set i y) = Fl cs (l.take i) ++ (cs y ++ Fl cs (l.drop (i + 1))) := by
  have hi := lt_of hx
  rw [(Fl_split hn (l.set i y) i y (by rw [List.getElem?_set_self hi])).1]
  rw [List.take_set_of_le (Nat.le_refl i), List.drop_set_of_lt (by omega)]
theorem own_put {w : World} {base e g m cap : Nat} {l : List α} (h : w.ownsRow base e n (.slice (some ⟨g, 0, none⟩) m cap) m (Fl cs l)) {i : Nat} {x : α} (hx : l[i]? = some x) (y : α) :
    ∃ cur, w.heap[g]? = some (.cells cur e (0, 0)) ∧ i * n + n ≤ cur.size ∧
    (w.setRow g (cur.toList.take (i * n) ++ cs y ++ cur.toList.drop (i * n + n)).toArray).ownsRow base e n (.slice (some ⟨g, 0, none⟩) m cap) m (Fl cs (l.set i y)) ∧
    Fr (fun k => k = g) w (w.setRow g (cur.toList.take (i * n) ++ cs y ++ cur.toList.drop (i * n + n)).toArray) := by
  obtain ⟨cur, h1, h2, h3, h4, h5, h6, h7⟩ := own_block h
  obtain ⟨s1, s2⟩ := Fl_split hn l i x hx
  have s3 := Fl_set hn l i x y hx
  have hlen := Fl_length hn l
  have hi := lt_of hx
  have hin : i * n + n ≤ l.length * n := by have : (i + 1) * n ≤ l.length * n := Nat.mul_le_mul_right n hi; rw [Nat.add_mul] at this; omega
  have hmn : l.length * n = m * n := by rw [← hlen]; exact h7
  have hcap : m * n ≤ cap * n := Nat.mul_le_mul_right n h3
  refine ⟨cur, h2, by omega, own_splice h _ _ (fun cur' hc' => ?_) (by rw [Fl_length hn, Fl_length hn, List.length_set])⟩
  rw [h2] at hc'
  simp only [Option.some.injEq, Obj.cells.injEq, and_true, true_and] at hc'
  subst hc'
  refine ⟨by simp [hn]; omega, fun ht => ?_⟩
  generalize hT : cur.toList.drop (m * n) = T
  have hcur : cur.toList = Fl cs (l.take i) ++ (cs x ++ (Fl cs (l.drop (i + 1)) ++ T)) := by
    have := List.take_append_drop (m * n) cur.toList
    rw [ht, s1, hT] at this
    rw [← this]
    simp only [List.append_assoc]
  have t1 : List.take (i * n) (Fl cs (l.take i) ++ (cs x ++ (Fl cs (l.drop (i + 1)) ++ T))) = Fl cs (l.take i) := List.take_left' s2
  have t2 : List.drop (i * n + n) (Fl cs (l.take i) ++ (cs x ++ (Fl cs (l.drop (i + 1)) ++ T))) = Fl cs (l.drop (i + 1)) ++ T := by
    rw [← List.append_assoc]
    exact List.drop_left' (by rw [List.length_append, s2, hn])
  show List.take (m * n) (cur.toList.take (i * n) ++ cs y ++ cur.toList.drop (i * n + n)) = _
  rw [hcur, t1, t2, s3, show Fl cs (l.take i) ++ cs y ++ (Fl cs (l.drop (i + 1)) ++ T) = (Fl cs (l.take i) ++ (cs y ++ Fl cs (l.drop (i + 1)))) ++ T by simp only [List.append_assoc]]
  refine List.take_left' ?_
  rw [← s3, Fl_length hn, List.length_set, hmn]
end

section
variable {P : Program} {α : Type} {n : Nat} {cs : α → List Value} (hn : ∀ x, (cs x).length = n) (h1 : ∀ x, ∀ u ∈ cs x, u.oneCell' = true)
include hn h1
/-- A struct stored into a row of the call's own. -/
theorem wpList_st_own {ops : Array Oper} {rest : List Oper} {o : Oper} {a : Act} {w : World} {Q : Exit → Act → World → Prop} (hgd : o.guard = none) (ty : TypeId) (x y : Operand) (ho : o.op = .store ty x y)
    (base e g cap i m : Nat) (l : List α) (hO : w.ownsRow base e n (.slice (some ⟨g, 0, none⟩) m cap) m (Fl cs l)) (r s : α) (hj : l[i]? = some r) (hi : (P.info? ty).map (·.size) = some n)
    (hx : a.eval x = .pointer (some ⟨g, i * n, none⟩)) (hy : a.eval y = .agg (cs s).toArray)
    (h : ∀ w', w'.ownsRow base e n (.slice (some ⟨g, 0, none⟩) m cap) m (Fl cs (l.set i s)) → Fr (fun k => k = g) w w' → wpList P ops Q rest (a.put o.dst undef) w') : wpList P ops Q (o :: rest) a w := by
  obtain ⟨cur, hg, hfit, hown, hfr⟩ := own_put hn hO hj s
  refine wpList_plain hgd fun _ hK => ?_
  have hst := run_storeCells_at P g (i * n) e (cs s) 0 cur w hg (by rw [hn]; simpa using hfit) (h1 s)
  rw [hn, Nat.add_zero] at hst
  have hr : (storeVar ty ⟨g, i * n, none⟩ (.agg (cs s).toArray)).run P w = .ok () (w.setRow g (cur.toList.take (i * n) ++ cs s ++ cur.toList.drop (i * n + n)).toArray) := by
    cases hq : P.info? ty with
    | none => simp [hq] at hi
    | some inf =>
      have hs : inf.size = n := by simpa [hq] using hi
      simp [storeVar, sizeOf, typeInfo, hq, hs, Value.cells, hn]
      simpa [List.append_assoc] using hst
  unfold Oper.wp execOp
  simp only [ho, Instr.storeAt, Instr.sureAddr, hx, hy, Sem.run_bind, Sem.run_pure, Result.andThen_ok, hr]
  exact hK _ _ (h _ hown hfr)
end
/-- 's[i:]' cleared. -/
theorem run_clear_own {P : Program} {w : World} {base e size n cap g : Nat} {xs : List Value} (h : w.ownsRow base e size (.slice (some ⟨g, 0, none⟩) n cap) n xs) (t : TypeId) (ht : P.underlying t = some (.slice e)) (z : Value) (bytes : Nat) (hinfo : (P.info? e).map (fun i => (i.zero, i.size, i.bytes)) = some (some z, size, bytes)) (hzs : z.cells.size = size) (hsz : 0 < size) (hz1 : ∀ u ∈ z.cells.toList, u.oneCell' = true)
    (i : Nat) (hi : i ≤ n) (a : Option Addr) (c : Nat) (ha : n - i = 0 ∨ a = some ⟨g, i * size, none⟩) (hns : a.isSome = true) (ty : TypeId) :
    ∃ w', (Builtin.clear_ #[t] ty #[.slice a (n - i) c]).run P w = .ok (.tuple #[]) w' ∧ w'.ownsRow base e size (.slice (some ⟨g, 0, none⟩) i cap) i (xs.take (i * size)) ∧ Fr (fun k => k = g) w w' := by
  obtain ⟨b, rfl⟩ := Option.isSome_iff_exists.1 hns
  obtain ⟨cur, b1, b2, b3, b4, b5, b6, b7⟩ := own_block h
  by_cases h0 : n - i = 0
  · have hin : i = n := by omega
    subst hin
    rw [h0]
    refine ⟨w, by simp [Builtin.clear_, run_underlying ht], own_cut h i (Nat.le_refl _), Fr.refl _ _⟩
  · obtain rfl : b = ⟨g, i * size, none⟩ := by rcases ha with h | h; exact absurd h h0; exact Option.some.inj h
    obtain ⟨inf, hi1, hi2, hi3, hi4⟩ := info_parts hinfo
    have hzv : ∀ w, (zeroValue e).run P w = .ok z w := fun w => by simp [zeroValue, typeInfo, hi1, hi2]
    obtain ⟨Z, hZ⟩ : ∃ Z, (Builtin.zeroCells z.cells (n - i)).toList = Z := ⟨_, rfl⟩
    have hZl : Z.length = (n - i) * size := by rw [← hZ, Array.length_toList, size_zeroCells, hzs]
    have hZ1 : ∀ u ∈ Z, u.oneCell' = true := by
      intro u hu
      rw [← hZ, Builtin.zeroCells] at hu
      simp only [Array.toList_map, List.mem_map, hzs] at hu
      obtain ⟨k, -, rfl⟩ := hu
      have hk : k % size < z.cells.size := by rw [hzs]; exact Nat.mod_lt _ hsz
      refine hz1 _ ?_
      rw [getElem!_pos z.cells _ hk]
      exact Array.getElem_mem_toList hk
    have hmul : i * size + (n - i) * size = n * size := by rw [← Nat.add_mul]; congr 1; omega
    have hcap : n * size ≤ cap * size := Nat.mul_le_mul_right _ b3
    have hst := run_storeCells_at P g (i * size) e Z 0 cur w b2 (by rw [hZl]; omega) hZ1
    simp only [Nat.add_zero, hZl] at hst
    obtain ⟨C, hC⟩ : ∃ C, (cur.toList.take (i * size) ++ Z ++ cur.toList.drop (i * size + (n - i) * size)).toArray = C := ⟨_, rfl⟩
    rw [hC] at hst
    have hCs : C.size = cur.size := by rw [← hC]; simp [hZl]; omega
    have hCt : C.toList.take (i * size) = xs.take (i * size) := by
      rw [← hC]
      show ((cur.toList.take (i * size) ++ Z) ++ cur.toList.drop _).take (i * size) = _
      rw [List.append_assoc, List.take_append_of_le_length (by simp; omega), List.take_take, Nat.min_self, ← b6, List.take_take, Nat.min_eq_left (by omega)]
    refine ⟨w.setRow g C, ?_, ?_, (Fr.refl (fun k => k = g) w).setRow (b := g) (.inl rfl) _⟩
    · obtain ⟨k, hk⟩ : ∃ k, n - i = k + 1 := ⟨n - i - 1, by omega⟩
      rw [hk] at hZ ⊢
      simp [Builtin.clear_, run_underlying ht, hzv, hZ, hst]
    · refine ⟨by rw [List.length_take, b7]; omega, .inr ⟨g, cap, C, rfl, b1, setRow_heap w g cur C e (0, 0) b2, by omega, b4, by rw [hCs, b5], hCt⟩⟩

/-- Where a slice begins that was cut at k. -/
def ad (ao : Option Addr) (c k sz : Nat) : Option Addr := if c = k then ao else ao.map (fun x => x.add (k * sz))
theorem ad_zero (ao : Option Addr) (c sz : Nat) : ad ao c 0 sz = ao := by
  unfold ad
  split
  · rfl
  · cases ao with
    | none => rfl
    | some a => simp [Addr.add]
theorem ad_some (g c k sz : Nat) : (ad (some ⟨g, 0, none⟩) c k sz).isSome = true := by unfold ad; split <;> rfl
theorem ad_at (g c k sz : Nat) (h : c ≠ k) : ad (some ⟨g, 0, none⟩) c k sz = some ⟨g, k * sz, none⟩ := by
  unfold ad; rw [if_neg h]; show some ((⟨g, 0, none⟩ : Addr).add (k * sz)) = _; rw [Addr.add_lit, Nat.zero_add]
section
variable {P : Program} (W : World) {t e sz : Nat} (ht : P.underlying t = some (.slice e)) (hsz : (P.info? e).map (·.size) = some sz) (ao : Option Addr) (n cap : Nat)
theorem sb (k c : Nat) (h : k ≤ c) : ∀ x, (Instr.sliceBound (.int .i64 (k : Int)) c x).run P W = .ok k W := fun x => by simp [Instr.sliceBound, asIntOf, h]
include hsz in
theorem szE : (sizeOf e).run P W = .ok sz W := by
  cases hq : P.info? e with
  | none => simp [hq] at hsz
  | some i =>
    have hs : i.size = sz := by simpa [hq] using hsz
    simp [sizeOf, typeInfo, hq, hs]
include ht hsz
theorem run_l (l : Nat) (h1 : l ≤ n) : (Instr.slice t (.slice ao n cap) (some (.int .i64 (l : Int))) none none).run P W = .ok (.slice (ad ao cap l sz) (n - l) (cap - l)) W := by
  simp only [Instr.slice, Sem.run_bind, run_underlying ht, Instr.sliceBounds, Result.andThen_ok, sb W l n h1, Sem.run_pure, szE W hsz]
  rfl
theorem run_h (h : Nat) (h2 : h ≤ cap) : (Instr.slice t (.slice ao n cap) none (some (.int .i64 (h : Int))) none).run P W = .ok (.slice ao h cap) W := by
  have e0 := ad_zero ao cap sz
  unfold ad at e0
  simp only [Instr.slice, Sem.run_bind, run_underlying ht, Instr.sliceBounds, Result.andThen_ok, sb W h cap h2, Sem.run_pure, szE W hsz, e0]
  rfl
theorem run_hm (h m : Nat) (h1 : h ≤ m) (h2 : m ≤ cap) : (Instr.slice t (.slice ao n cap) none (some (.int .i64 (h : Int))) (some (.int .i64 (m : Int)))).run P W = .ok (.slice ao h m) W := by
  have e0 := ad_zero ao m sz
  unfold ad at e0
  simp only [Instr.slice, Sem.run_bind, run_underlying ht, Instr.sliceBounds, Result.andThen_ok, sb W m cap h2, sb W h m h1, Sem.run_pure, szE W hsz, e0]
  rfl
theorem run_lh (l h : Nat) (h0 : l ≤ h) (h1 : h ≤ cap) : (Instr.slice t (.slice ao n cap) (some (.int .i64 (l : Int))) (some (.int .i64 (h : Int))) none).run P W = .ok (.slice (ad ao cap l sz) (h - l) (cap - l)) W := by
  simp only [Instr.slice, Sem.run_bind, run_underlying ht, Instr.sliceBounds, Result.andThen_ok, sb W h cap h1, sb W l h h0, Sem.run_pure, szE W hsz]
  rfl
theorem run_lhm (l h m : Nat) (h0 : l ≤ h) (h1 : h ≤ m) (h2 : m ≤ cap) : (Instr.slice t (.slice ao n cap) (some (.int .i64 (l : Int))) (some (.int .i64 (h : Int))) (some (.int .i64 (m : Int)))).run P W = .ok (.slice (ad ao m l sz) (h - l) (m - l)) W := by
  simp only [Instr.slice, Sem.run_bind, run_underlying ht, Instr.sliceBounds, Result.andThen_ok, sb W m cap h2, sb W h m h1, sb W l h h0, Sem.run_pure, szE W hsz]
  rfl
end
/-- What is behind a cut. -/
theorem RowS.drop {α : Type} {n : Nat} {cs : α → List Value} {w : World} {ao : Option Addr} {l : List α} (h : RowS n cs w ao l) (c k : Nat) (hc : l.length ≤ c) : RowS n cs w (ad ao c k n) (l.drop k) := by
  intro hl
  rw [List.length_drop] at hl
  obtain ⟨b, off, rfl, hh⟩ := h (by omega)
  refine ⟨b, off + k * n, ?_, fun i x hx j v hv => ?_⟩
  · unfold ad; rw [if_neg (by omega)]; show some ((⟨b, off, none⟩ : Addr).add (k * n)) = _; rw [Addr.add_lit]
  · rw [List.getElem?_drop] at hx
    have := hh (k + i) x hx j v hv
    rw [Nat.add_mul, ← Nat.add_assoc] at this
    exact this
end Go.Proofs.Yteaempemdolcjaa.Ns
