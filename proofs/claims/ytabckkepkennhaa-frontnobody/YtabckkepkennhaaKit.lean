/-
  Laws that serve every walk of this seat: 'append' of whatever source onto a row that the call owns; bytes as cells; a slice of bytes that is read; 'string(b)'. Nothing of the program.
-/
import Derived.Deep.AppendSrc
import Derived.WalkKit
import Derived.WalkSpells
import Derived.WalkLawsBesides
import Derived.Laws.BytesArg
import Derived.OpenShut
namespace Go.Proofs.Ytabckkepkennhaa.Kt
open Go.RowKit

theorem mkH {p : Prop} (h : p) : Hid p := h

/-- Bytes as cells. -/
def U (bs : List UInt8) : List Value := bs.map fun b => Value.int .u8 (b.toNat : Int)
theorem U_length (bs : List UInt8) : (U bs).length = bs.length := by simp [U]
theorem U_append (a b : List UInt8) : U (a ++ b) = U a ++ U b := by simp [U]
theorem U_one (bs : List UInt8) : ∀ u ∈ U bs, u.oneCell' = true := by
  intro u hu
  obtain ⟨_, _, rfl⟩ := List.mem_map.1 hu
  rfl
theorem U_get (bs : List UInt8) (j : Nat) (u : Value) (h : (U bs)[j]? = some u) : j < bs.length ∧ u = .int .u8 ((bs.getD j 0).toNat : Int) := by
  rcases Nat.lt_or_ge j bs.length with hl | hl
  · simp [U, List.getElem?_eq_getElem hl] at h
    exact ⟨hl, by simp [List.getD, List.getElem?_eq_getElem hl, h]⟩
  · rw [List.getElem?_eq_none (by simpa [U] using hl)] at h; cases h
theorem U_at (bs : List UInt8) (j : Nat) (h : j < bs.length) : (U bs)[j]? = some (.int .u8 ((bs.getD j 0).toNat : Int)) := by
  simp [U, List.getD, List.getElem?_eq_getElem h]

/-- A slice of bytes, as it is read: its length is the list's; where it has an element it leads to a row of cells. -/
def Row (w : World) (ao : Option Addr) (bs : List UInt8) : Prop :=
  0 < bs.length → ∃ b off, ao = some ⟨b, off, none⟩ ∧ ∀ i, i < bs.length → w.cell? ⟨b, off + i, none⟩ = some (.int .u8 ((bs.getD i 0).toNat : Int))

theorem Row.nil (w : World) (ao : Option Addr) : Row w ao [] := fun h => by simp at h

theorem Row.below {w w' : World} {ao : Option Addr} {bs : List UInt8} (h : Row w ao bs) (hb : Below w.heap.size w w') : Row w' ao bs := by
  intro hl
  obtain ⟨b, off, e, hc⟩ := h hl
  refine ⟨b, off, e, fun i hi => ?_⟩
  have h1 := hc i hi
  rw [hb.cell (p := ⟨b, off + i, none⟩) (World.block_lt_of_cell? w _ h1)]
  exact h1

/-- An owned row of bytes is read so. -/
theorem Row.own {w : World} {base e n : Nat} {ao : Option Addr} {cap : Nat} {bs : List UInt8} (h : w.ownsRow base e 1 (.slice ao n cap) n (U bs)) : n = bs.length ∧ n ≤ cap ∧ Row w ao bs := by
  have hn : n = bs.length := by have := h.1; rw [U_length] at this; omega
  subst hn
  refine ⟨rfl, ?_, fun hl => ?_⟩
  · rcases h.2 with ⟨e1, e2⟩ | ⟨g, c, cur, e1, _, _, e2, _⟩
    · simp [e2]
    · simp only [Value.slice.injEq] at e1; omega
  · rcases h.2 with ⟨e1, e2⟩ | ⟨g, c, cur, e1, _, hg, _, _, _, ht⟩
    · omega
    · simp only [Value.slice.injEq] at e1
      obtain ⟨rfl, _, rfl⟩ := e1
      refine ⟨g, 0, rfl, fun i hi => ?_⟩
      have := World.ownsRow.cellAt h i (by omega)
      rw [Nat.zero_add, this, U_at bs i hi]

/-- What append takes of such a slice. -/
theorem Row.src {P : Program} {w : World} {tx e' : TypeId} (hk : P.underlying tx = some (.slice e')) {ao : Option Addr} {bs : List UInt8} (h : Row w ao bs) (c : Nat) :
    Src P 1 tx (.slice ao bs.length c) bs.length (U bs) w := by
  by_cases h0 : 0 < bs.length
  · obtain ⟨b, off, rfl, hc⟩ := h h0
    refine Src.ofSlice w hk _ _ c _ (by simp [U]) (fun j u hj => ?_) (U_one bs)
    obtain ⟨hl, rfl⟩ := U_get bs j u hj
    have : (⟨b, off, none⟩ : Addr).add j = ⟨b, off + j, none⟩ := by unfold Addr.add; split <;> simp_all
    rw [this]; exact hc j hl
  · have e : bs = [] := List.eq_nil_of_length_eq_zero (by omega)
    subst e
    cases ao with
    | none => exact Src.ofNil w hk c
    | some a => exact Src.ofSlice w hk a 0 c [] (by simp) (fun j u hj => by simp at hj) (fun u hu => by cases hu)

/-- One new byte, laid in a block of its own. -/
theorem src_one {P : Program} {tx e' T : TypeId} (hk : P.underlying tx = some (.slice e')) (w : World) (X : Int) (c : UInt8) (hX : X = (c.toNat : Int)) :
    Src P 1 tx (.slice (some ⟨w.heap.size, 0, none⟩) 1 1) 1 (U [c]) (w.alloc (.cells #[.int .u8 X] T)) := by
  subst hX
  refine Src.ofSlice _ hk _ _ 1 _ (by simp [U]) (fun j u hj => ?_) (U_one [c])
  obtain ⟨hl, rfl⟩ := U_get [c] j u hj
  simp only [List.length_cons, List.length_nil] at hl
  obtain rfl : j = 0 := by omega
  exact cell_one_new _ _ _ 0 _ rfl

section
variable {P : Program} (w : World)

/-- 'append(v, x...)' onto a row of the call's own, from whatever source. -/
theorem run_append_own_src (base : Nat) (t tx ty e : TypeId) (i : TypeInfo) (z : Value) (size bytes : Nat) (ht : P.underlying t = some (.slice e)) (hi : P.info? e = some i) (hz : i.zero = some z)
    (hsize : i.size = size) (hby : i.bytes = bytes) (hzs : z.cells.size = size) (hsz : 0 < size)
    (v : Value) (n : Nat) (xs : List Value) (hown : w.ownsRow base e size v n xs) (x : Value) (m : Nat) (news : List Value) (hs : Src P size tx x m news w)
    (h63 : n + m ≤ maxLen) (hbytes : (n + m) * bytes ≤ 140737488355328) (hbase : base ≤ w.heap.size) :
    ∃ v' w', (Builtin.append_ #[t, tx] ty #[v, x]).run P w = .ok v' w' ∧ w'.ownsRow base e size v' (n + m) (xs ++ news) ∧ w.grownBy w' v.ownBlock := by
  subst hsize
  subst hby
  have hl := hs.newsLen
  have hsmall : n + m ≤ 9223372036854775807 := by simp only [maxLen] at h63; omega
  have hlen : (xs ++ news).length = (n + m) * i.size := by rw [List.length_append, hown.1, hl, Nat.add_mul]
  have grown : ∀ (old : Nat), old < n + m → ∀ (row : Option Nat),
      (w.drew.alloc (.cells ((xs ++ news).toArray ++ Builtin.zeroCells z.cells (grownCap w (n + m) old e - (n + m))) e)).ownsRow base e i.size
        (.slice (some ⟨w.heap.size, 0, none⟩) (n + m) (grownCap w (n + m) old e)) (n + m) (xs ++ news) ∧
      w.grownBy (w.drew.alloc (.cells ((xs ++ news).toArray ++ Builtin.zeroCells z.cells (grownCap w (n + m) old e - (n + m))) e)) row := by
    intro old ho row
    have hge := grownCap_ge w (n + m) old e
    have hcm : grownCap w (n + m) old e ≤ maxLen := grownCap_le_maxLen w (n + m) old e h63
    refine ⟨⟨hlen, .inr ⟨w.heap.size, _, _, rfl, hbase, heap_alloc_new w.drew _, hge, hcm, ?_, ?_⟩⟩, ⟨rfl, rfl, rfl, by simp, fun k hk _ => Below.heap_alloc w.drew _ k hk⟩⟩
    · simp only [Array.size_append, List.size_toArray, size_zeroCells, hzs, hlen, ← Nat.add_mul]
      congr 1
      omega
    · simp only [Array.toList_append]
      rw [← hlen]
      exact List.take_left
  rcases hown.2 with ⟨rfl, rfl⟩ | ⟨g, cap, cur, rfl, hbg, hg, hnc, hcm, hcs, htake⟩
  · have hx : xs = [] := List.eq_nil_of_length_eq_zero (by simpa using hown.1)
    subst hx
    by_cases hm : m = 0
    · subst hm
      have hn : news = [] := List.eq_nil_of_length_eq_zero (by simpa using hl)
      subst hn
      refine ⟨.slice none 0 0, w, ?_, World.ownsRow_nil w base e i.size, ⟨rfl, rfl, rfl, Nat.le_refl _, fun _ _ _ => rfl⟩⟩
      rcases hs.kind with ⟨e', hk⟩ | hk <;> simp [Builtin.append_, run_underlying ht, run_underlying hk, sizeOf, typeInfo, hi, hs.len, hs.cells]
    · have hr := run_append_grow_src (P := P) w t tx ty e i z ht hi hz none 0 0 [] (run_firstCells_none w.drew i.size 0 0 0) x m news hs (by omega) (by omega) (growslice_fits (by omega) hbytes)
      have hgr := grown 0 (by omega) (Value.ownBlock (.slice none 0 0))
      simp only [Nat.zero_add, List.nil_append] at hgr hr ⊢
      exact ⟨_, _, hr, hgr.1, hgr.2⟩
  · by_cases hroom : n + m ≤ cap
    · have hfit : n * i.size + news.length ≤ cur.size := by rw [hl, hcs, ← Nat.add_mul]; exact Nat.mul_le_mul_right _ hroom
      have hst := run_storeCells_at P g (n * i.size) e news 0 cur w hg (by simpa using hfit) hs.one
      simp only [Nat.add_zero] at hst
      have hr : (Builtin.append_ #[t, tx] ty #[.slice (some ⟨g, 0, none⟩) n cap, x]).run P w =
          .ok (.slice (some ⟨g, 0, none⟩) (n + m) cap) (w.setRow g (cur.toList.take (n * i.size) ++ news ++ cur.toList.drop (n * i.size + news.length)).toArray) := by
        rcases hs.kind with ⟨e', hk⟩ | hk <;> simp [Builtin.append_, run_underlying ht, run_underlying hk, sizeOf, typeInfo, hi, hs.len, hroom, hs.cells, Addr.add_lit, hst]
      refine ⟨_, _, hr, ⟨hlen, .inr ⟨g, cap, _, rfl, hbg, setRow_heap w g cur _ e _ hg, hroom, hcm, ?_, ?_⟩⟩, ⟨rfl, rfl, rfl, by simp, fun k _ hk => setRow_other w g k _ (fun e => hk (by simp [Value.ownBlock, e]))⟩⟩
      · simp only [List.size_toArray, List.length_append, List.length_take, List.length_drop, Array.length_toList]
        omega
      · rw [htake, ← hlen]
        exact List.take_left
    · have holds : ∀ j u, xs[j]? = some u → w.cell? ((⟨g, 0, none⟩ : Addr).add j) = some u := hown.cells (g := g) rfl
      have hold := run_firstCells_some (P := P) w.drew i.size n ⟨g, 0, none⟩ n cap xs hown.1 (by simpa using holds)
      have hr := run_append_grow_src (P := P) w t tx ty e i z ht hi hz (some ⟨g, 0, none⟩) n cap xs hold x m news hs (by omega) (by omega) (growslice_fits (by omega) hbytes)
      have hgr := grown cap (by omega) (Value.ownBlock (.slice (some ⟨g, 0, none⟩) n cap))
      exact ⟨_, _, hr, hgr.1, hgr.2⟩

/-- The same at the walk's list of operations. -/
theorem wpList_append_own_src {ops : Array Oper} {rest : List Oper} {o : Oper} {a : Act} {Q : Exit → Act → World → Prop} (hgd : o.guard = none) (s x : Operand) (t tx : TypeId)
    (ho : o.op = .call { callee := .builtin .append, args := #[s, x], argTypes := #[t, tx] })
    (base : Nat) (e : TypeId) (z : Value) (size bytes : Nat) (ht : P.underlying t = some (.slice e)) (hinfo : (P.info? e).map (fun i => (i.zero, i.size, i.bytes)) = some (some z, size, bytes))
    (hzs : z.cells.size = size) (hsz : 0 < size)
    (v : Value) (n : Nat) (xs : List Value) (hs : a.eval s = v) (hown : w.ownsRow base e size v n xs)
    (xv : Value) (m : Nat) (news : List Value) (hx : a.eval x = xv) (hsrc : Src P size tx xv m news w)
    (h63 : n + m ≤ maxLen) (hbytes : (n + m) * bytes ≤ 140737488355328) (hbase : base ≤ w.heap.size)
    (h : ∀ v' w', w'.ownsRow base e size v' (n + m) (xs ++ news) → w.grownBy w' v.ownBlock → wpList P ops Q rest (a.put o.dst v') w') : wpList P ops Q (o :: rest) a w := by
  obtain ⟨i, hi, hz, hsize, hby⟩ := info_parts hinfo
  refine wpList_plain hgd fun _ hK => ?_
  obtain ⟨v', w', hr, h2, h3⟩ := run_append_own_src (P := P) w base t tx o.type e i z size bytes ht hi hz hsize hby hzs hsz v n xs hown xv m news hsrc h63 hbytes hbase
  unfold Oper.wp execOp
  simp only [ho, resolve, invoke, builtin, Sem.run_bind, Sem.run_pure, Result.andThen_ok, List.map_toArray, List.map_cons, List.map_nil, hs, hx, hr]
  exact hK _ _ (h v' w' h2 h3)
end

/-- The shape of an owned value. -/
theorem own_form {w : World} {base e size n : Nat} {v : Value} {xs : List Value} (h : w.ownsRow base e size v n xs) : ∃ ao cap, v = .slice ao n cap := by
  rcases h.2 with ⟨e1, e2⟩ | ⟨g, c, cur, e1, _⟩
  · exact ⟨none, 0, by rw [e1, e2]⟩
  · exact ⟨_, c, e1⟩

/-- An append onto an owned row keeps what lies below the base. -/
theorem below_own {w w' w0 : World} {base e size n : Nat} {v : Value} {xs : List Value} (h : w.ownsRow base e size v n xs) (hg : w.grownBy w' v.ownBlock) (hb : Below base w0 w) (hs : base ≤ w.heap.size) : Below base w0 w' :=
  hb.grown hg hs fun k hk => (h.lt k hk).1

/-- Bytes as a string. -/
def S (bs : List UInt8) : ByteArray := ⟨bs.toArray⟩
theorem S_size (bs : List UInt8) : (S bs).size = bs.length := rfl
theorem S_data (bs : List UInt8) : (S bs).data.toList = bs := rfl
theorem S_toList (bs : List UInt8) : (S bs).toList = bs := by rw [ByteArray.toList_eq, S_data]

theorem run_string {P : Program} {w : World} {src dst e : TypeId} (hs : P.underlying src = some (.slice e)) (he : P.underlying e = some (.int .u8)) (hd : P.underlying dst = some .string)
    {ao : Option Addr} {bs : List UInt8} (h : Row w ao bs) (c : Nat) : (convert src dst (.slice ao bs.length c)).run P w = .ok (.string (S bs)) w := by
  by_cases h0 : 0 < bs.length
  · obtain ⟨b, off, rfl, hc⟩ := h h0
    have := run_convert_bytes_arg (P := P) w src e hs he b off bs.length c (bs.map fun b => (b.toNat : Int)) (by simp) (fun i hi => by rw [hc i hi]; simp [List.getD, List.getElem?_eq_getElem hi]) dst hd
    rw [this]
    congr 2
    simp [strOfNums, S, Function.comp_def]
  · have e0 : bs = [] := List.eq_nil_of_length_eq_zero (by omega)
    subst e0
    cases ao with
    | none => exact run_convert_bytes_nil (P := P) w src e hs he 0 c dst hd
    | some a =>
      rw [run_convert_bytes_string w src dst e _ _ c hs he hd]
      have := run_bytesToString (P := P) w a 0 c [] (by have := run_loadCells_list (P := P) w a [] (fun j v hj => by simp at hj); simpa using this)
      exact this

/-- What is told of a slice of integers that came in: it is nil; or it leads to a row of 'cap' cells, the numbers 'zs'. -/
def IsRow (k : IntKind) (w : World) (a : Option Addr) (len cap : Nat) (zs : List Int) : Prop :=
  (a = none ∧ len = 0 ∧ cap = 0 ∧ zs = []) ∨
  ∃ x, a = some x ∧ len ≤ cap ∧ cap ≤ maxLen ∧ zs.length = cap ∧ (∀ i, i < zs.length → w.cell? (x.add i) = some (.int k (zs.getD i 0))) ∧ ∀ n ∈ zs, (Lit.int k n).wf = true

theorem isRow_bytes {w : World} {a : Option Addr} {len cap : Nat} {zs : List Int} (h : IsRow .u8 w a len cap zs) : ∃ bs : List UInt8, bs.length = len ∧ len ≤ cap ∧ cap ≤ 9223372036854775807 ∧ Row w a bs := by
  rcases h with ⟨rfl, rfl, rfl, rfl⟩ | ⟨x, rfl, hl, hm, hz, hcell, hwz⟩
  · exact ⟨[], rfl, Nat.le_refl _, by omega, Row.nil _ _⟩
  · refine ⟨(zs.take len).map fun n => UInt8.ofNat n.toNat, by simp; omega, hl, by unfold maxLen at hm; omega, fun h0 => ?_⟩
    simp only [List.length_map, List.length_take] at h0 ⊢
    obtain ⟨b, off, spot⟩ := x
    have hc0 := hcell 0 (by omega)
    have hspot : spot = none := by simpa [Addr.add] using World.cell?_spot hc0
    subst hspot
    refine ⟨b, off, rfl, fun i hi => ?_⟩
    have hc := hcell i (by omega)
    have hp : (⟨b, off, none⟩ : Addr).add i = ⟨b, off + i, none⟩ := by unfold Addr.add; split <;> simp_all
    rw [hp] at hc
    rw [hc]
    have hiz : i < zs.length := by omega
    have hil : i < len := by omega
    have hw := hwz zs[i] (List.getElem_mem hiz)
    have hb := bounds_u8 hw
    have e1 : zs.getD i 0 = zs[i] := by simp [List.getD, List.getElem?_eq_getElem hiz]
    have e2 : ((zs.take len).map fun n => UInt8.ofNat n.toNat).getD i 0 = UInt8.ofNat zs[i].toNat := by
      simp [List.getD, hil, List.getElem?_eq_getElem hiz]
    rw [e1, e2]
    have : (UInt8.ofNat zs[i].toNat).toNat = zs[i].toNat := by simp [UInt8.toNat_ofNat']; omega
    rw [this]
    congr 2
    omega
end Go.Proofs.Ytabckkepkennhaa.Kt
