/-
  Laws for a row that is appended to twice, a range stored into a row or a block of its own; a slice of integers that came in.
-/
import Derived.Test.YtiinhfkpfklgjabPlV
import Derived.Test.YtiinhfkpfklgjabKitS
import Derived.Deep.RegionHeld3
namespace Go.Proofs.Ytiinhfkpfklgjab.Py
open Go.RowKit Kt Pl Pr Pf Pa Pb
set_option linter.unusedVariables false

theorem grownBy_setRow (w : World) (g : Nat) (cs : Array Value) : w.grownBy (w.setRow g cs) (some g) :=
  ⟨rfl, rfl, rfl, by simp, fun k _ hk => setRow_other w g k _ (fun e => hk (by rw [e]))⟩

section
variable {P : Program} (w : World)
/-- 'append(v, x...)' onto a row of the call's own: the row itself stays as it was. -/
theorem run_append_keep (base : Nat) (t tx ty e : TypeId) (i : TypeInfo) (z : Value) (size bytes : Nat) (ht : P.underlying t = some (.slice e)) (hi : P.info? e = some i) (hz : i.zero = some z)
    (hsize : i.size = size) (hby : i.bytes = bytes) (hzs : z.cells.size = size) (hsz : 0 < size)
    (v : Value) (n : Nat) (xs : List Value) (hown : w.ownsRow base e size v n xs) (x : Value) (m : Nat) (news : List Value) (hs : Src P size tx x m news w)
    (h63 : n + m ≤ maxLen) (hbytes : (n + m) * bytes ≤ 140737488355328) (hbase : base ≤ w.heap.size) :
    ∃ v' w', (Builtin.append_ #[t, tx] ty #[v, x]).run P w = .ok v' w' ∧ w'.ownsRow base e size v' (n + m) (xs ++ news) ∧ w.grownBy w' v.ownBlock ∧ w'.ownsRow base e size v n xs := by
  subst hsize
  subst hby
  have hl := hs.newsLen
  have hsmall : n + m ≤ 9223372036854775807 := by simp only [maxLen] at h63; omega
  have hlen : (xs ++ news).length = (n + m) * i.size := by rw [List.length_append, hown.1, hl, Nat.add_mul]
  have grown : ∀ (old : Nat), old < n + m → ∀ (row : Option Nat),
      (w.drew.alloc (.cells ((xs ++ news).toArray ++ Builtin.zeroCells z.cells (grownCap w (n + m) old e - (n + m))) e)).ownsRow base e i.size
        (.slice (some ⟨w.heap.size, 0, none⟩) (n + m) (grownCap w (n + m) old e)) (n + m) (xs ++ news) ∧
      w.grownBy (w.drew.alloc (.cells ((xs ++ news).toArray ++ Builtin.zeroCells z.cells (grownCap w (n + m) old e - (n + m))) e)) row := by
    intro old ho row
    have hge := grownCap_ge w (n + m) old e
    have hcm : grownCap w (n + m) old e ≤ maxLen := grownCap_le_maxLen w (n + m) old e h63
    refine ⟨⟨hlen, .inr ⟨w.heap.size, _, _, rfl, hbase, heap_alloc_new w.drew _, hge, hcm, ?_, ?_⟩⟩, ⟨rfl, rfl, rfl, by simp, fun k hk _ => Below.heap_alloc w.drew _ k hk⟩⟩
    · simp only [Array.size_append, List.size_toArray, size_zeroCells, hzs, hlen, ← Nat.add_mul]
      congr 1
      omega
    · simp only [Array.toList_append]
      rw [← hlen]
      exact List.take_left
  rcases hown.2 with ⟨rfl, rfl⟩ | ⟨g, cap, cur, rfl, hbg, hg, hnc, hcm, hcs, htake⟩
  · have hx : xs = [] := List.eq_nil_of_length_eq_zero (by simpa using hown.1)
    subst hx
    by_cases hm : m = 0
    · subst hm
      have hn : news = [] := List.eq_nil_of_length_eq_zero (by simpa using hl)
      subst hn
      refine ⟨.slice none 0 0, w, ?_, World.ownsRow_nil w base e i.size, ⟨rfl, rfl, rfl, Nat.le_refl _, fun _ _ _ => rfl⟩, World.ownsRow_nil w base e i.size⟩
      rcases hs.kind with ⟨e', hk⟩ | hk <;> simp [Builtin.append_, run_underlying ht, run_underlying hk, sizeOf, typeInfo, hi, hs.len, hs.cells]
    · have hr := run_append_grow_src (P := P) w t tx ty e i z ht hi hz none 0 0 [] (run_firstCells_none w.drew i.size 0 0 0) x m news hs (by omega) (by omega) (growslice_fits (by omega) hbytes)
      have hgr := grown 0 (by omega) (Value.ownBlock (.slice none 0 0))
      simp only [Nat.zero_add, List.nil_append] at hgr hr ⊢
      exact ⟨_, _, hr, hgr.1, hgr.2, World.ownsRow_nil _ base e i.size⟩
  · by_cases hroom : n + m ≤ cap
    · have hfit : n * i.size + news.length ≤ cur.size := by rw [hl, hcs, ← Nat.add_mul]; exact Nat.mul_le_mul_right _ hroom
      have hst := run_storeCells_at P g (n * i.size) e news 0 cur w hg (by simpa using hfit) hs.one
      simp only [Nat.add_zero] at hst
      have hr : (Builtin.append_ #[t, tx] ty #[.slice (some ⟨g, 0, none⟩) n cap, x]).run P w =
          .ok (.slice (some ⟨g, 0, none⟩) (n + m) cap) (w.setRow g (cur.toList.take (n * i.size) ++ news ++ cur.toList.drop (n * i.size + news.length)).toArray) := by
        rcases hs.kind with ⟨e', hk⟩ | hk <;> simp [Builtin.append_, run_underlying ht, run_underlying hk, sizeOf, typeInfo, hi, hs.len, hroom, hs.cells, Addr.add_lit, hst]
      have hsz2 : (cur.toList.take (n * i.size) ++ news ++ cur.toList.drop (n * i.size + news.length)).toArray.size = cap * i.size := by
        simp only [List.size_toArray, List.length_append, List.length_take, List.length_drop, Array.length_toList]
        omega
      refine ⟨_, _, hr, ⟨hlen, .inr ⟨g, cap, _, rfl, hbg, setRow_heap w g cur _ e _ hg, hroom, hcm, hsz2, ?_⟩⟩, ⟨rfl, rfl, rfl, by simp, fun k _ hk => setRow_other w g k _ (fun e => hk (by simp [Value.ownBlock, e]))⟩, ⟨hown.1, .inr ⟨g, cap, _, rfl, hbg, setRow_heap w g cur _ e _ hg, hnc, hcm, hsz2, ?_⟩⟩⟩
      · rw [htake, ← hlen]
        exact List.take_left
      · rw [htake, ← hown.1, List.append_assoc]
        exact List.take_left
    · have holds : ∀ j u, xs[j]? = some u → w.cell? ((⟨g, 0, none⟩ : Addr).add j) = some u := hown.cells (g := g) rfl
      have hold := run_firstCells_some (P := P) w.drew i.size n ⟨g, 0, none⟩ n cap xs hown.1 (by simpa using holds)
      have hr := run_append_grow_src (P := P) w t tx ty e i z ht hi hz (some ⟨g, 0, none⟩) n cap xs hold x m news hs (by omega) (by omega) (growslice_fits (by omega) hbytes)
      have hgr := grown cap (by omega) (Value.ownBlock (.slice (some ⟨g, 0, none⟩) n cap))
      exact ⟨_, _, hr, hgr.1, hgr.2, Kv.own_other hown (grown cap (by omega) none).2 (fun _ _ => by simp)⟩
end

theorem step_append_keep {P : Program} {ops : Array Oper} {o : Oper} {a : Act} {w : World} {K : Act → World → Prop} {Q : Exit → Act → World → Prop} {E : Prop}
    (hw : Region.wanted o (yielded ops a.tmps) = true) (s x : Operand) (t tx : TypeId) (hop : o.op = Op.call { callee := Callee.builtin Builtin.append, args := #[s, x], argTypes := #[t, tx] })
    (base : Nat) (e : TypeId) (z : Value) (size bytes : Nat) (ht : P.underlying t = some (.slice e)) (hinfo : (P.info? e).map (fun i => (i.zero, i.size, i.bytes)) = some (some z, size, bytes))
    (hzs : z.cells.size = size) (hsz : 0 < size)
    (v : Value) (n : Nat) (xs : List Value) (hs : a.eval s = v) (hown : w.ownsRow base e size v n xs)
    (xv : Value) (m : Nat) (news : List Value) (hx : a.eval x = xv) (hsrc : Src P size tx xv m news w)
    (h63 : n + m ≤ maxLen) (hbytes : (n + m) * bytes ≤ 140737488355328) (hbase : base ≤ w.heap.size)
    (hK : ∀ v' w', w'.ownsRow base e size v' (n + m) (xs ++ news) → w'.ownsRow base e size v n xs → w.grownBy w' v.ownBlock → K (a.put o.dst v') w') :
    if Region.wanted o (yielded ops a.tmps) = true then Oper.wp P o a w K Q else E := by
  obtain ⟨i, hi, hz, hsize, hby⟩ := info_parts hinfo
  rw [if_pos hw]
  obtain ⟨v', w', hr, h2, h3, h4⟩ := run_append_keep (P := P) w base t tx o.type e i z size bytes ht hi hz hsize hby hzs hsz v n xs hown xv m news hsrc h63 hbytes hbase
  unfold Oper.wp
  simp [execOp, hop, resolve, invoke, builtin, hs, hx, hr, Result.andThen]
  exact hK v' w' h2 h4 h3

/-- A range stored into a block of its own. -/
theorem step_store_bx {ops : Array Oper} {o : Oper} {a : Act} {w : World} {K : Act → World → Prop} {Q : Exit → Act → World → Prop} {E : Prop}
    (hg : o.guard = none) (x y : Operand) (hop : o.op = .store 24 x y) (b : Nat) (hx : a.eval x = .pointer (some ⟨b, 0, none⟩)) (p q lo hi : Int) (hy : a.eval y = .agg #[.int .i64 p, .int .i64 q]) (hb : Bx w b lo hi)
    (hK : ∀ w', Bx w' b p q → w.grownBy w' (some b) → K (a.put o.dst undef) w') :
    if Region.wanted o (yielded ops a.tmps) = true then Oper.wp Try.prog o a w K Q else E := by
  have hw : Region.wanted o (yielded ops a.tmps) = true := by simp [Region.wanted, hg]
  rw [if_pos hw]
  have hr := run_storeVar_row (P := Try.prog) w b 24 24 #[.int .i64 lo, .int .i64 hi] #[.int .i64 p, .int .i64 q] hb (by kernel_rfl) rfl (by simpa using (show ∀ v ∈ [Value.int .i64 p, Value.int .i64 q], v.oneCell' = true by intro v hv; simp at hv; rcases hv with rfl | rfl <;> rfl))
  unfold Oper.wp execOp
  simp only [hop, Instr.storeAt, Instr.sureAddr, hx, hy, Sem.run_bind, Sem.run_pure, Result.andThen_ok, hr]
  exact hK _ (setRow_heap w b _ _ _ _ hb) (grownBy_setRow w b _)

theorem Ow.pos {w : World} {base : Nat} {v : Value} {l : List Rg} (h : Ow w base v l) (hl : 0 < l.length) : ∃ g cap, v = .slice (some ⟨g, 0, none⟩) l.length cap ∧ base ≤ g ∧ g < w.heap.size ∧ l.length ≤ cap ∧ cap ≤ 9223372036854775807 := by
  rcases h.2 with ⟨e1, e2⟩ | ⟨g, c, cur, e1, e2, e3, e4, hc, _⟩
  · omega
  · exact ⟨g, c, e1, e2, (Array.getElem?_eq_some_iff.1 e3).1, e4, by unfold maxLen at hc; omega⟩
theorem E_len (l : List Rg) : (E l).length = l.length * 2 := by
  induction l with
  | nil => rfl
  | cons r t ih => have : E (r :: t) = [.int .i64 r.1, .int .i64 r.2] ++ E t := rfl; rw [this, List.length_append, ih, List.length_cons]; simp; omega
/-- A range stored into a row of the call's own. -/
theorem wpList_store_own {ops : Array Oper} {rest : List Oper} {o : Oper} {a : Act} {w : World} {Q : Exit → Act → World → Prop} (hgd : o.guard = none) (x y : Operand) (ho : o.op = .store 24 x y)
    (base g cap j : Nat) (l : List Rg) (hO : Ow w base (.slice (some ⟨g, 0, none⟩) l.length cap) l) (r : Rg) (hj : l[j]? = some r) (hx : a.eval x = .pointer (some ⟨g, j * 2, none⟩)) (p q : Int) (hy : a.eval y = .agg #[.int .i64 p, .int .i64 q])
    (h : ∀ w', Ow w' base (.slice (some ⟨g, 0, none⟩) l.length cap) (l.set j (p, q)) → w.grownBy w' (some g) → wpList Try.prog ops Q rest (a.put o.dst undef) w') : wpList Try.prog ops Q (o :: rest) a w := by
  have hjl : j < l.length := (List.getElem?_eq_some_iff.1 hj).1
  refine wpList_plain hgd fun _ hK => ?_
  rcases hO.2 with ⟨e1, e2⟩ | ⟨g', c, cur, e1, hbg, hg, hnc, hcm, hcs, htake⟩
  · omega
  · simp only [Value.slice.injEq, Option.some.injEq, Addr.mk.injEq, and_true, true_and] at e1
    obtain ⟨rfl, rfl⟩ := e1
    have hfit : j * 2 + 2 ≤ cur.size := by omega
    have hst := run_storeCells_at Try.prog g (j * 2) 24 [.int .i64 p, .int .i64 q] 0 cur w hg (by simpa using hfit) (by intro v hv; simp at hv; rcases hv with rfl | rfl <;> rfl)
    have hr : (storeVar 24 ⟨g, j * 2, none⟩ (.agg #[.int .i64 p, .int .i64 q])).run Try.prog w = .ok () (w.setRow g (cur.toList.take (j * 2 + 0) ++ [Value.int .i64 p, Value.int .i64 q] ++ cur.toList.drop (j * 2 + 0 + 2)).toArray) := by
      obtain ⟨i, hi, hz, hsize, hby⟩ := info_parts (P := Try.prog) info26
      simp [storeVar, sizeOf, typeInfo, hi, hsize, Value.cells]
      simpa using hst
    unfold Oper.wp execOp
    simp only [ho, Instr.storeAt, Instr.sureAddr, hx, hy, Sem.run_bind, Sem.run_pure, Result.andThen_ok, hr]
    refine hK _ _ (h _ ⟨?_, .inr ⟨g, cap, _, ?_, hbg, setRow_heap w g cur _ _ _ hg, ?_, hcm, ?_, ?_⟩⟩ (grownBy_setRow w g _))
    · rw [E_len, List.length_set]
    · rw [List.length_set]
    · rw [List.length_set]; exact hnc
    · simp only [List.size_toArray, List.length_append, List.length_take, List.length_drop, Array.length_toList, List.length_cons, List.length_nil]
      omega
    · obtain ⟨A, B, rfl, rfl⟩ : ∃ A B, l = A ++ r :: B ∧ A.length = j := by
        obtain ⟨hk, e⟩ := List.getElem?_eq_some_iff.1 hj
        refine ⟨l.take j, l.drop (j + 1), ?_, by rw [List.length_take]; omega⟩
        rw [← e, List.getElem_cons_drop hk, List.take_append_drop]
      have hset : (A ++ r :: B).set A.length (p, q) = A ++ (p, q) :: B := by simp
      rw [hset]
      have hE : ∀ s : Rg, E (A ++ s :: B) = E A ++ ([.int .i64 s.1, .int .i64 s.2] ++ E B) := fun s => by rw [E_append]; rfl
      have hEA := E_len A
      have hEB := E_len B
      generalize hT : cur.toList.drop ((A ++ r :: B).length * 2) = T
      have hcur : cur.toList = E A ++ ([.int .i64 r.1, .int .i64 r.2] ++ (E B ++ T)) := by
        have := List.take_append_drop ((A ++ r :: B).length * 2) cur.toList
        rw [htake, hE, hT] at this
        rw [← this]
        simp only [List.append_assoc]
      have t1 : List.take (A.length * 2 + 0) (E A ++ ([.int .i64 r.1, .int .i64 r.2] ++ (E B ++ T))) = E A := List.take_left' (by omega)
      have t2 : List.drop (A.length * 2 + 0 + 2) (E A ++ ([Value.int .i64 r.1, Value.int .i64 r.2] ++ (E B ++ T))) = E B ++ T := by
        rw [List.drop_append, List.drop_eq_nil_of_le (by omega), show A.length * 2 + 0 + 2 - (E A).length = 2 by omega]; rfl
      rw [hcur, hE, t1, t2]
      show List.take _ (E A ++ [Value.int .i64 p, Value.int .i64 q] ++ (E B ++ T)) = _
      rw [show E A ++ [Value.int .i64 p, Value.int .i64 q] ++ (E B ++ T) = (E A ++ ([Value.int .i64 p, Value.int .i64 q] ++ E B)) ++ T by simp only [List.append_assoc]]
      refine List.take_left' ?_
      simp only [List.length_append, List.length_cons, List.length_nil]
      omega
theorem isRow_ints {w : World} {a : Option Addr} {len cap : Nat} {zs : List Int} (h : IsRow .i64 w a len cap zs) : ∃ ys : List Int, ys.length = len ∧ len ≤ cap ∧ cap ≤ 9223372036854775807 ∧
    (0 < ys.length → ∃ b off, a = some ⟨b, off, none⟩ ∧ ∀ (i : Nat) (x : Int), ys[i]? = some x → w.cell? ⟨b, off + i, none⟩ = some (.int .i64 x)) := by
  rcases h with ⟨rfl, rfl, rfl, rfl⟩ | ⟨x, rfl, hl, hm, hz, hcell, hwz⟩
  · exact ⟨[], rfl, Nat.le_refl _, by omega, fun h => by simp at h⟩
  · refine ⟨zs.take len, by simp; omega, hl, by unfold maxLen at hm; omega, fun h0 => ?_⟩
    simp only [List.length_take] at h0
    obtain ⟨b, off, spot⟩ := x
    have hc0 := hcell 0 (by omega)
    have hspot : spot = none := by simpa [Addr.add] using World.cell?_spot hc0
    subst hspot
    refine ⟨b, off, rfl, fun i y hy => ?_⟩
    have hi : i < len ∧ i < zs.length := by have := (List.getElem?_eq_some_iff.1 hy).1; rw [List.length_take] at this; omega
    have hc := hcell i (by omega)
    have hp : (⟨b, off, none⟩ : Addr).add i = ⟨b, off + i, none⟩ := by unfold Addr.add; split <;> simp_all
    rw [hp] at hc
    rw [hc, List.getD_eq_getElem?_getD]
    rw [List.getElem?_take_of_lt hi.1] at hy
    rw [hy]
    rfl
end Go.Proofs.Ytiinhfkpfklgjab.Py
