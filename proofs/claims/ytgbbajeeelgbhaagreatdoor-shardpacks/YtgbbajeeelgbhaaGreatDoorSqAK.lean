/-
  DgP DgK DgW, joined by mrg.py.
-/
import Init
import Derived.Test.YtgbbajeeelgbhaaGreatDoorSqAA
import Derived.Deep.WholeRow
import Derived.Lib.SliceRun
import Derived.Test.YtgbbajeeelgbhaaGreatDoorRows
import Derived.Laws.BitsAllLaws
import Derived.Laws.ShiftsVarLaws
import Derived.BigQuiet

namespace Go.Proofs.YtgbbajeeelgbhaaGreatDoor.Dp
set_option linter.unusedVariables false

def add (x y : Nat) : Nat := (x + y) % 4294967296
def rotr (k x : Nat) : Nat := (x / 2 ^ k) ||| (x * 2 ^ (32 - k) % 4294967296)
def ch (e f g : Nat) : Nat := (e &&& f) ^^^ ((e ^^^ 4294967295) &&& g)
def maj (a b c : Nat) : Nat := (a &&& b) ^^^ (a &&& c) ^^^ (b &&& c)
def big (i j k x : Nat) : Nat := rotr i x ^^^ rotr j x ^^^ rotr k x
def lil (i j k x : Nat) : Nat := rotr i x ^^^ rotr j x ^^^ x / 2 ^ k

structure St where
  a : Nat
  b : Nat
  c : Nat
  d : Nat
  e : Nat
  f : Nat
  g : Nat
  h : Nat
def St.list (s : St) : List Nat := [s.a, s.b, s.c, s.d, s.e, s.f, s.g, s.h]
def St.ok (s : St) : Prop := ∀ x ∈ s.list, x < 4294967296
def one (s : St) (K W : Nat) : Nat := add (add (add (add s.h (big 6 11 25 s.e)) (ch s.e s.f s.g)) K) W
def two (s : St) : Nat := add (big 2 13 22 s.a) (maj s.a s.b s.c)
def St.step (s : St) (K W : Nat) : St := ⟨add (one s K W) (two s), s.a, s.b, s.c, add s.d (one s K W), s.e, s.f, s.g⟩
def KT : List Nat := [1116352408, 1899447441, 3049323471, 3921009573, 961987163, 1508970993, 2453635748, 2870763221, 3624381080, 310598401, 607225278, 1426881987, 1925078388, 2162078206, 2614888103, 3248222580, 3835390401, 4022224774, 264347078, 604807628, 770255983, 1249150122, 1555081692, 1996064986, 2554220882, 2821834349, 2952996808, 3210313671, 3336571891, 3584528711, 113926993, 338241895, 666307205, 773529912, 1294757372, 1396182291, 1695183700, 1986661051, 2177026350, 2456956037, 2730485921, 2820302411, 3259730800, 3345764771, 3516065817, 3600352804, 4094571909, 275423344, 430227734, 506948616, 659060556, 883997877, 958139571, 1322822218, 1537002063, 1747873779, 1955562222, 2024104815, 2227730452, 2361852424, 2428436474, 2756734187, 3204031479, 3329325298]
def rnds (s : St) (ws : List Nat) : Nat → St
  | 0 => s
  | n + 1 => (rnds s ws n).step (KT.getD n 0) (ws.getD n 0)
def St.plus (s t : St) : St := ⟨add s.a t.a, add s.b t.b, add s.c t.c, add s.d t.d, add s.e t.e, add s.f t.f, add s.g t.g, add s.h t.h⟩
def word (l : List UInt8) (i : Nat) : Nat := (l.getD (4 * i) 0).toNat * 16777216 + (l.getD (4 * i + 1) 0).toNat * 65536 + (l.getD (4 * i + 2) 0).toNat * 256 + (l.getD (4 * i + 3) 0).toNat
def nxt (l : List Nat) (n : Nat) : Nat := add (add (add (l.getD (n - 16) 0) (l.getD (n - 7) 0)) (lil 7 18 3 (l.getD (n - 15) 0))) (lil 17 19 10 (l.getD (n - 2) 0))
def grow (blk : List UInt8) (n : Nat) (l : List Nat) : List Nat := l ++ [if n < 16 then word blk n else nxt l n]
def sch (blk : List UInt8) : Nat → List Nat
  | 0 => []
  | n + 1 => grow blk n (sch blk n)
def comp (s : St) (blk : List UInt8) : St := s.plus (rnds s (sch blk 64) 64)
def blks (s : St) (l : List UInt8) : Nat → St
  | 0 => s
  | n + 1 => comp (blks s l n) ((l.drop (64 * n)).take 64)
def init : St := ⟨1779033703, 3144134277, 1013904242, 2773480762, 1359893119, 2600822924, 528734635, 1541459225⟩
def padz (n : Nat) : Nat := (119 - n % 64) % 64
def bytes4 (x : Nat) : List UInt8 := [UInt8.ofNat (x / 16777216), UInt8.ofNat (x / 65536), UInt8.ofNat (x / 256), UInt8.ofNat x]
def len8 (n : Nat) : List UInt8 := bytes4 (n * 8 / 4294967296) ++ bytes4 (n * 8 % 4294967296)
def padded (bs : List UInt8) : List UInt8 := bs ++ ([128] ++ (List.replicate (padz bs.length) 0 ++ len8 bs.length))
def fin (bs : List UInt8) : St := blks init (padded bs) ((padded bs).length / 64)
def St.bytes (s : St) : List UInt8 := (s.list.map bytes4).flatten
def dig (bs : List UInt8) : List UInt8 := (fin bs).bytes

theorem add_lt (x y : Nat) : add x y < 4294967296 := Nat.mod_lt _ (by decide)
theorem xor_lt {x y : Nat} (hx : x < 4294967296) (hy : y < 4294967296) : x ^^^ y < 4294967296 := Nat.xor_lt_two_pow (n := 32) hx hy
theorem or_lt {x y : Nat} (hx : x < 4294967296) (hy : y < 4294967296) : x ||| y < 4294967296 := Nat.or_lt_two_pow (n := 32) hx hy
theorem and_lt {x y : Nat} (hx : x < 4294967296) : x &&& y < 4294967296 := Nat.lt_of_le_of_lt Nat.and_le_left hx
theorem div_lt {x : Nat} (k : Nat) (hx : x < 4294967296) : x / 2 ^ k < 4294967296 := Nat.lt_of_le_of_lt (Nat.div_le_self _ _) hx
theorem rotr_lt {x : Nat} (k : Nat) (hx : x < 4294967296) : rotr k x < 4294967296 := or_lt (div_lt k hx) (Nat.mod_lt _ (by decide))
theorem ch_lt {e f g : Nat} (he : e < 4294967296) : ch e f g < 4294967296 := xor_lt (and_lt he) (and_lt (xor_lt he (by decide)))
theorem maj_lt {a b c : Nat} (ha : a < 4294967296) (hb : b < 4294967296) : maj a b c < 4294967296 := xor_lt (xor_lt (and_lt ha) (and_lt ha)) (and_lt hb)
theorem big_lt {i j k x : Nat} (hx : x < 4294967296) : big i j k x < 4294967296 := xor_lt (xor_lt (rotr_lt _ hx) (rotr_lt _ hx)) (rotr_lt _ hx)
theorem lil_lt {i j k x : Nat} (hx : x < 4294967296) : lil i j k x < 4294967296 := xor_lt (xor_lt (rotr_lt _ hx) (rotr_lt _ hx)) (div_lt _ hx)
theorem one_lt (s : St) (K W : Nat) : one s K W < 4294967296 := add_lt _ _
theorem two_lt (s : St) : two s < 4294967296 := add_lt _ _

theorem St.ok_iff (s : St) : s.ok ↔ s.a < 4294967296 ∧ s.b < 4294967296 ∧ s.c < 4294967296 ∧ s.d < 4294967296 ∧ s.e < 4294967296 ∧ s.f < 4294967296 ∧ s.g < 4294967296 ∧ s.h < 4294967296 := by
  simp [St.ok, St.list]
theorem step_ok {s : St} (h : s.ok) (K W : Nat) : (s.step K W).ok := by
  rw [St.ok_iff] at *
  obtain ⟨h1, h2, h3, h4, h5, h6, h7, h8⟩ := h
  exact ⟨add_lt _ _, h1, h2, h3, add_lt _ _, h5, h6, h7⟩
theorem rnds_ok {s : St} (h : s.ok) (ws : List Nat) : ∀ n, (rnds s ws n).ok
  | 0 => h
  | n + 1 => step_ok (rnds_ok h ws n) _ _
theorem plus_ok (s t : St) : (s.plus t).ok := by
  rw [St.ok_iff]
  exact ⟨add_lt _ _, add_lt _ _, add_lt _ _, add_lt _ _, add_lt _ _, add_lt _ _, add_lt _ _, add_lt _ _⟩
theorem comp_ok (s : St) (blk : List UInt8) : (comp s blk).ok := plus_ok _ _
theorem blks_ok {s : St} (h : s.ok) (l : List UInt8) : ∀ n, (blks s l n).ok
  | 0 => h
  | n + 1 => comp_ok _ _
theorem init_ok : init.ok := by rw [St.ok_iff]; decide
theorem fin_ok (bs : List UInt8) : (fin bs).ok := blks_ok init_ok _ _

theorem sch_length (blk : List UInt8) : ∀ n, (sch blk n).length = n
  | 0 => rfl
  | n + 1 => by simp [sch, grow, sch_length blk n]
theorem word_lt (l : List UInt8) (i : Nat) : word l i < 4294967296 := by
  have h1 := (l.getD (4 * i) 0).toNat_lt
  have h2 := (l.getD (4 * i + 1) 0).toNat_lt
  have h3 := (l.getD (4 * i + 2) 0).toNat_lt
  have h4 := (l.getD (4 * i + 3) 0).toNat_lt
  unfold word
  omega
theorem sch_lt (blk : List UInt8) : ∀ n, ∀ x ∈ sch blk n, x < 4294967296
  | 0, x, h => by cases h
  | n + 1, x, h => by
    simp only [sch, grow, List.mem_append, List.mem_singleton] at h
    rcases h with h | rfl
    · exact sch_lt blk n x h
    · split
      · exact word_lt _ _
      · exact add_lt _ _
theorem getD_lt {l : List Nat} (h : ∀ x ∈ l, x < 4294967296) (i : Nat) : l.getD i 0 < 4294967296 := by
  rcases Nat.lt_or_ge i l.length with hl | hl
  · simp only [List.getD, List.getElem?_eq_getElem hl, Option.getD_some]; exact h _ (List.getElem_mem hl)
  · simp [List.getD, List.getElem?_eq_none hl]
theorem KT_lt (i : Nat) : KT.getD i 0 < 4294967296 := getD_lt (by decide) i

theorem blks_append (s : St) (l r : List UInt8) : ∀ n, 64 * n ≤ l.length → blks s (l ++ r) n = blks s l n
  | 0, _ => rfl
  | n + 1, h => by
    rw [blks, blks, blks_append s l r n (by omega), List.drop_append_of_le_length (by omega), List.take_append_of_le_length (by simp; omega)]
theorem bytes4_length (x : Nat) : (bytes4 x).length = 4 := rfl
theorem len8_length (n : Nat) : (len8 n).length = 8 := rfl
theorem padded_length (bs : List UInt8) : (padded bs).length = 64 * (bs.length / 64 + (if bs.length % 64 < 56 then 1 else 2)) := by
  simp only [padded, padz, List.length_append, List.length_replicate, len8_length, List.length_singleton]
  split <;> omega
theorem St.bytes_length (s : St) : s.bytes.length = 32 := rfl
theorem dig_length (bs : List UInt8) : (dig bs).length = 32 := rfl

/-- What the last block, or the last two, hold. -/
theorem fin_small (bs : List UInt8) (h : bs.length % 64 < 56) :
    fin bs = comp (blks init bs (bs.length / 64)) (bs.drop (64 * (bs.length / 64)) ++ ([128] ++ (List.replicate (55 - bs.length % 64) 0 ++ len8 bs.length))) := by
  have hl := padded_length bs
  rw [if_pos h] at hl
  have hz : padz bs.length = 55 - bs.length % 64 := by unfold padz; omega
  unfold fin
  rw [hl, Nat.mul_div_cancel_left _ (by decide), blks]
  have e1 : blks init (padded bs) (bs.length / 64) = blks init bs (bs.length / 64) := blks_append _ _ _ _ (by omega)
  rw [e1]
  congr 1
  rw [List.take_of_length_le (by rw [List.length_drop, hl]; omega), padded, List.drop_append_of_le_length (by omega), hz]
theorem fin_big (bs : List UInt8) (h : 56 ≤ bs.length % 64) :
    fin bs = comp (comp (blks init bs (bs.length / 64)) (bs.drop (64 * (bs.length / 64)) ++ ([128] ++ List.replicate (63 - bs.length % 64) 0))) (List.replicate 56 0 ++ len8 bs.length) := by
  have hl := padded_length bs
  rw [if_neg (by omega)] at hl
  have hz : padz bs.length = (63 - bs.length % 64) + 56 := by unfold padz; omega
  have hlt : bs.length % 64 < 64 := Nat.mod_lt _ (by decide)
  unfold fin
  rw [hl, Nat.mul_div_cancel_left _ (by decide), blks, blks]
  have e1 : blks init (padded bs) (bs.length / 64) = blks init bs (bs.length / 64) := blks_append _ _ _ _ (by omega)
  rw [e1]
  have ep : padded bs = (bs ++ ([128] ++ List.replicate (63 - bs.length % 64) 0)) ++ (List.replicate 56 0 ++ len8 bs.length) := by
    rw [padded, hz, ← List.replicate_append_replicate]; simp
  have e64 : (bs ++ ([128] ++ List.replicate (63 - bs.length % 64) (0 : UInt8))).length = 64 * (bs.length / 64 + 1) := by
    simp; omega
  have e2 : ((padded bs).drop (64 * (bs.length / 64))).take 64 = bs.drop (64 * (bs.length / 64)) ++ ([128] ++ List.replicate (63 - bs.length % 64) 0) := by
    rw [ep, List.drop_append_of_le_length (by omega), List.take_append_of_le_length (by rw [List.length_drop]; omega), List.take_of_length_le (by rw [List.length_drop]; omega), List.drop_append_of_le_length (by omega)]
  have e3 : ((padded bs).drop (64 * (bs.length / 64 + 1))).take 64 = List.replicate 56 0 ++ len8 bs.length := by
    rw [ep, ← e64, List.drop_left, List.take_of_length_le (by rw [List.length_append, List.length_replicate, len8_length]; omega)]
  rw [e2, e3]
end Go.Proofs.YtgbbajeeelgbhaaGreatDoor.Dp

namespace Go.Proofs.YtgbbajeeelgbhaaGreatDoor.Dk
open Go.RowKit Kt
set_option linter.unusedVariables false
set_option linter.unusedSectionVars false
set_option linter.unusedSimpArgs false

/-- Of the old blocks only b has turned. -/
def Only (b : Nat) (w w' : World) : Prop := w.grownBy w' (some b)
theorem Only.refl (b : Nat) (w : World) : Only b w w := ⟨rfl, rfl, rfl, Nat.le_refl _, fun _ _ _ => rfl⟩
theorem Only.trans {b : Nat} {w w1 w2 : World} (h : Only b w w1) (k : Only b w1 w2) : Only b w w2 :=
  ⟨k.os.trans h.os, k.tape.trans h.tape, k.output.trans h.output, Nat.le_trans h.size k.size, fun i hi hne => (k.block i (Nat.lt_of_lt_of_le hi h.size) hne).trans (h.block i hi hne)⟩
theorem Only.ofBelow {b : Nat} {w w' : World} (h : Below w.heap.size w w') : Only b w w' := ⟨h.os, h.tape, h.output, h.size, fun k hk _ => h.block k hk⟩
theorem Only.setRow {b : Nat} {w w' : World} (h : Only b w w') (cs : Array Value) : Only b w (w'.setRow b cs) :=
  h.trans ⟨rfl, rfl, rfl, by simp, fun k _ hk => setRow_other w' b k cs (fun e => hk (by rw [e]))⟩
theorem Only.drewN {b : Nat} {w w' : World} (h : Only b w w') (n : Nat) : Only b w (w'.drewN n) := h.trans ⟨rfl, rfl, rfl, Nat.le_refl _, fun _ _ _ => rfl⟩
theorem Only.alloc {b : Nat} {w w' : World} (h : Only b w w') (o : Obj) : Only b w (w'.alloc o) := h.trans ⟨rfl, rfl, rfl, by simp, fun k hk _ => Below.heap_alloc w' o k hk⟩
/-- A block that is new since w may turn as well. -/
theorem Only.new {b g : Nat} {w w1 w2 : World} (h : Only b w w1) (k : Only g w1 w2) (hg : w.heap.size ≤ g) : Only b w w2 :=
  ⟨k.os.trans h.os, k.tape.trans h.tape, k.output.trans h.output, Nat.le_trans h.size k.size, fun i hi hne => (k.block i (Nat.lt_of_lt_of_le hi h.size) (by simp; omega)).trans (h.block i hi hne)⟩
theorem Only.heap {b : Nat} {w w' : World} (h : Only b w w') {k : Nat} (hk : k < w.heap.size) (hne : k ≠ b) : w'.heap[k]? = w.heap[k]? := h.block k hk (by simpa using hne)
theorem Only.below {b B : Nat} {w w' : World} (h : Only b w w') (hb : B ≤ b) (hs : B ≤ w.heap.size) : Below B w w' :=
  ⟨h.os, h.tape, h.output, h.size, fun k hk => h.heap (by omega) (by omega)⟩
theorem below_drewN {B : Nat} {a w : World} (h : Below B a w) (n : Nat) : Below B a (w.drewN n) := ⟨h.os, h.tape, h.output, h.size, h.block⟩
theorem below_setRow {B g : Nat} {a w : World} (h : Below B a w) (hg : B ≤ g) (cs : Array Value) : Below B a (w.setRow g cs) :=
  ⟨h.os, h.tape, h.output, by rw [setRow_size]; exact h.size, fun k hk => (setRow_other w g k cs (by omega)).trans (h.block k hk)⟩

theorem cell_other (w : World) {g k a : Nat} (v : Value) (h : ¬ k = a) : (w.setCell ⟨g, k, none⟩ v).cell? ⟨g, a, none⟩ = w.cell? ⟨g, a, none⟩ :=
  World.cell?_setCell_other _ _ _ _ (fun e => h (by injection e))

theorem block_lt {w : World} {b : Nat} {o : Obj} (h : w.heap[b]? = some o) : b < w.heap.size := (Array.getElem?_eq_some_iff.1 h).1

section
variable {P : Program} {w : World} {ops : Array Oper} {rest : List Oper} {o : Oper} {a : Act} {Q : Exit → Act → World → Prop}

theorem run_isAgg {t : TypeId} {d : TypeDesc} (hu : P.underlying t = some d) (hd : (match d with | .struct _ | .array _ _ => true | _ => false) = true) (w : World) : (isAgg t).run P w = .ok true w := by
  unfold isAgg
  rw [Sem.run_bind, run_underlying hu w]
  cases d <;> simp_all

theorem run_load_agg (ty : TypeId) (d : TypeDesc) (hu : P.underlying ty = some d) (hd : (match d with | .struct _ | .array _ _ => true | _ => false) = true) (b off : Nat) (cs : List Value) (hi : (P.info? ty).map (·.size) = some cs.length)
    (hc : ∀ j v, cs[j]? = some v → w.cell? ⟨b, off + j, none⟩ = some v) : (loadVar ty ⟨b, off, none⟩).run P w = .ok (.agg cs.toArray) w := by
  have hl := run_loadCells_list (P := P) w ⟨b, off, none⟩ cs (fun j v hv => by rw [Addr.add_lit]; exact hc j v hv)
  have hag := run_isAgg (P := P) hu hd w
  cases hq : P.info? ty with
  | none => simp [hq] at hi
  | some i =>
    have hs : i.size = cs.length := by simpa [hq] using hi
    simp [loadVar, Sem.run_bind, hag, sizeOf, typeInfo, hq, hs, hl]

/-- A whole array or struct, out of cells that lie in a row. -/
theorem wpList_load_agg (hgd : o.guard = none) (ty : TypeId) (x : Operand) (ho : o.op = .load ty x) (d : TypeDesc) (hu : P.underlying ty = some d) (hd : (match d with | .struct _ | .array _ _ => true | _ => false) = true)
    (b off : Nat) (hx : a.eval x = .pointer (some ⟨b, off, none⟩)) (cs : List Value) (hi : (P.info? ty).map (·.size) = some cs.length) (hc : ∀ j v, cs[j]? = some v → w.cell? ⟨b, off + j, none⟩ = some v)
    (h : wpList P ops Q rest (a.put o.dst (.agg cs.toArray)) w) : wpList P ops Q (o :: rest) a w := by
  refine wpList_plain hgd fun _ hK => ?_
  have hr := run_load_agg (P := P) (w := w) ty d hu hd b off cs hi hc
  unfold Oper.wp execOp
  simp only [ho, Instr.loadAt, Instr.sureAddr, hx, Sem.run_bind, Sem.run_pure, Result.andThen_ok, hr]
  exact hK _ _ h

/-- A whole block, stored. -/
theorem wpList_store_agg (hgd : o.guard = none) (ty : TypeId) (x y : Operand) (ho : o.op = .store ty x y) (b : Nat) (hx : a.eval x = .pointer (some ⟨b, 0, none⟩)) (cs : List Value) (hy : a.eval y = .agg cs.toArray)
    (t : TypeId) (old : Array Value) (hg : w.heap[b]? = some (.cells old t (0, 0))) (hi : (P.info? ty).map (·.size) = some cs.length) (hold : old.size = cs.length) (h1 : ∀ v ∈ cs, v.oneCell' = true)
    (h : wpList P ops Q rest (a.put o.dst undef) (w.setRow b cs.toArray)) : wpList P ops Q (o :: rest) a w := by
  refine wpList_plain hgd fun _ hK => ?_
  have hr := run_storeVar_row (P := P) w b t ty old cs.toArray hg (by simpa using hi) (by simpa using hold) (by simpa using h1)
  unfold Oper.wp execOp
  simp only [ho, Instr.storeAt, Instr.sureAddr, hx, hy, Sem.run_bind, Sem.run_pure, Result.andThen_ok, hr]
  exact hK _ _ h

theorem wpList_store_new (hgd : o.guard = none) (ty : TypeId) (x y : Operand) (ho : o.op = .store ty x y) (W : World) (Z : Array Value) (hx : a.eval x = .pointer (some ⟨W.heap.size, 0, none⟩)) (cs : List Value) (hy : a.eval y = .agg cs.toArray)
    (hi : (P.info? ty).map (·.size) = some cs.length) (hold : Z.size = cs.length) (h1 : ∀ v ∈ cs, v.oneCell' = true)
    (h : wpList P ops Q rest (a.put o.dst undef) (W.alloc (.cells cs.toArray ty))) : wpList P ops Q (o :: rest) a (W.alloc (.cells Z ty)) := by
  refine wpList_store_agg hgd ty x y ho W.heap.size hx cs hy ty Z (heap_alloc_last W _) hi hold h1 ?_
  rw [World.setRow_alloc_new]
  exact h

/-- A new variable of an array or a struct: n cells of whatever. -/
theorem wpList_alloc_agg (hgd : o.guard = none) (ty : TypeId) (ho : o.op = .alloc ty) (n : Nat) (hi : ((P.info? ty).bind (·.zero)).map (fun z => z.cells.size) = some n)
    (h : ∀ Z : Array Value, Z.size = n → wpList P ops Q rest (a.put o.dst (.pointer (some ⟨w.heap.size, 0, none⟩))) (w.alloc (.cells Z ty))) : wpList P ops Q (o :: rest) a w := by
  refine wpList_plain hgd fun _ hK => ?_
  obtain ⟨z, hz0, hn⟩ := Option.map_eq_some_iff.1 hi
  have hz : ∀ w, (zeroValue ty).run P w = .ok z w := by
    intro w
    cases hq : P.info? ty with
    | none => simp [hq] at hz0
    | some i =>
      have : i.zero = some z := by simpa [hq] using hz0
      simp [zeroValue, typeInfo, hq, this]
  unfold Oper.wp execOp
  simp only [ho, Instr.alloc, Sem.run_bind, Sem.run_pure, Result.andThen_ok, hz, newVar, newRow, newObj]
  exact hK _ _ (h z.cells hn)

/-- An element of an array that is held as a value. -/
theorem wpList_index_agg (hgd : o.guard = none) (ty e : TypeId) (x y : Operand) (ho : o.op = .index ty x y) (n : Nat) (hu : P.underlying ty = some (.array n e)) (d : TypeDesc) (hue : P.underlying e = some d) (hd : (match d with | .struct _ | .array _ _ => true | _ => false) = false) (hi : (P.info? e).map (·.size) = some 1)
    (cs : List Value) (k : Nat) (hx : a.eval x = .agg cs.toArray) (hy : a.eval y = .int .i64 k) (hk : k < n) (v : Value) (hv : cs[k]? = some v)
    (h : wpList P ops Q rest (a.put o.dst v) w) : wpList P ops Q (o :: rest) a w := by
  refine wpList_plain hgd fun _ hK => ?_
  have hag : (isAgg e).run P w = .ok false w := by
    unfold isAgg
    rw [Sem.run_bind, run_underlying hue w]
    cases d <;> simp_all
  have hkz : ((k : Nat) : Int) < (n : Int) := by omega
  have hr : (Instr.index ty (.agg cs.toArray) (.int .i64 k)).run P w = .ok v w := by
    cases hq : P.info? e with
    | none => simp [hq] at hi
    | some i =>
      have hs : i.size = 1 := by simpa [hq] using hi
      simp [Instr.index, asIntOf, run_underlying hu, sizeOf, typeInfo, hq, hs, part, hag, hk, hv]
  unfold Oper.wp execOp
  simp only [ho, hx, hy, Sem.run_bind, Sem.run_pure, Result.andThen_ok, hr]
  exact hK _ _ h

/-- What lies in a block, cells of it put in another's place. -/
def splice (C : Array Value) (o : Nat) (vs : List Value) : Array Value := (C.toList.take o ++ vs ++ C.toList.drop (o + vs.length)).toArray
theorem splice_size {C : Array Value} {o : Nat} {vs : List Value} (h : o + vs.length ≤ C.size) : (splice C o vs).size = C.size := by
  simp [splice]; omega
theorem splice_nil (C : Array Value) (o : Nat) : splice C o [] = C := by simp [splice]

/-- 'clear' of a part of a block, or of nothing. -/
theorem run_clear_any (t e ty : TypeId) (z : Value) (ht : P.underlying t = some (.slice e)) (hv : ∀ w, (zeroValue e).run P w = .ok z w) (hz : z.cells = #[z]) (h1 : z.oneCell' = true) (ad : Addr) (b off n c : Nat)
    (had : n = 0 ∨ ad = ⟨b, off, none⟩) (C : Array Value) (T : TypeId) (hg : w.heap[b]? = some (.cells C T (0, 0))) (hn : off + n ≤ C.size) :
    (Builtin.clear_ #[t] ty #[.slice (some ad) n c]).run P w = .ok (.tuple #[]) (w.setRow b (splice C off (List.replicate n z))) := by
  by_cases h0 : n = 0
  · subst h0
    rw [List.replicate_zero, splice_nil, setRow_self w b C T (0, 0) hg]
    simp [Builtin.clear_, run_underlying ht]
  · obtain rfl : ad = ⟨b, off, none⟩ := by rcases had with h | h; exact absurd h h0; exact h
    have hzc : (Builtin.zeroCells z.cells n).toList = List.replicate n z := by
      rw [hz]
      simp [Builtin.zeroCells]
      apply List.ext_getElem
      · simp
      · intro i h1 h2
        simp [Nat.mod_one]
    have hst := run_storeCells_at P b off T (List.replicate n z) 0 C w hg (by simpa using hn) (by intro v hv'; rw [List.eq_of_mem_replicate hv']; exact h1)
    simp only [Nat.add_zero] at hst
    obtain ⟨m, rfl⟩ : ∃ m, n = m + 1 := ⟨n - 1, by omega⟩
    have hst' : (storeCells ⟨b, off, none⟩ (List.replicate (m + 1) z)).run P w = .ok () (w.setRow b (splice C off (List.replicate (m + 1) z))) := hst
    clear hst
    generalize splice C off (List.replicate (m + 1) z) = C' at hst' ⊢
    simp [Builtin.clear_, run_underlying ht, hv, hzc, hst']

/-- 'copy' of bytes into a block. -/
theorem run_copy_any (dT sT ty elem : TypeId) (b off dLen dCap : Nat) (ao : Option Addr) (sCap : Nat) (bs : List UInt8) (hr : Row w ao bs)
    (hu : P.underlying dT = some (.slice elem)) (hs : (P.info? elem).map (·.size) = some 1) (C : Array Value) (T : TypeId) (hg : w.heap[b]? = some (.cells C T (0, 0))) (hn : off + dLen ≤ C.size) (h0 : 0 < bs.length) :
    (Builtin.copy_ #[dT, sT] ty #[.slice (some ⟨b, off, none⟩) dLen dCap, .slice ao bs.length sCap]).run P w = .ok (.int .i64 ((min bs.length dLen : Nat) : Int)) (w.setRow b (splice C off (U (bs.take dLen)))) := by
  obtain ⟨b2, o2, rfl, hc⟩ := hr h0
  have hl : (U (bs.take dLen)).length = min bs.length dLen := by simp [U_length, Nat.min_comm]
  have := run_copy_row P w dT sT ty elem b off dLen dCap ⟨b2, o2, none⟩ bs.length sCap C T (U (bs.take dLen)) hu hs hg hl (fun j v hv => by
    obtain ⟨hj, rfl⟩ := U_get _ _ _ hv
    rw [Addr.add_lit, hc j (by simp at hj; omega)]
    have : j < dLen := by simp at hj; omega
    simp [List.getD, this]) (by rw [hl]; omega) (U_one _)
  rw [this]
  unfold splice
  rw [hl]
  rfl
end

theorem run_bound {P : Program} (w : World) (l n : Nat) (c : BoundsCode) (hl : l ≤ n) : (Instr.sliceBound (.int .i64 (l : Int)) n c).run P w = .ok l w := by
  have h : ((l : Nat) : Int) ≤ (n : Int) := by omega
  simp [Instr.sliceBound, asIntOf, h, hl]
/-- 'a[l:]' of an array in a block. -/
theorem run_arr_low {P : Program} (w : World) (t e n : Nat) (hu : P.underlying t = some (.array n e)) (hi : (P.info? e).map (·.size) = some 1) (b off l : Nat) (i : Int) (hil : i = (l : Int)) (hl : l < n) :
    (Instr.sliceAt t (.pointer (some ⟨b, off, none⟩)) (some (.int .i64 i)) none none).run P w = .ok (.slice (some ⟨b, off + l, none⟩) (n - l) (n - l)) w := by
  subst hil
  have hb := run_bound (P := P) w l n .sliceB (by omega)
  cases hq : P.info? e with
  | none => simp [hq] at hi
  | some i =>
    have hs : i.size = 1 := by simpa [hq] using hi
    have hne : ¬ n = l := by omega
    simp [Instr.sliceAt, run_underlying hu, Instr.sureAddr, Instr.sliceBounds, sizeOf, typeInfo, hq, hs, hb, hne, Addr.add_lit]
/-- 'a[l:]' where nothing is left. -/
theorem run_arr_end {P : Program} (w : World) (t e n : Nat) (hu : P.underlying t = some (.array n e)) (hi : (P.info? e).map (·.size) = some 1) (b off : Nat) (i : Int) (hil : i = (n : Int)) :
    (Instr.sliceAt t (.pointer (some ⟨b, off, none⟩)) (some (.int .i64 i)) none none).run P w = .ok (.slice (some ⟨b, off, none⟩) 0 0) w := by
  subst hil
  have hb := run_bound (P := P) w n n .sliceB (by omega)
  cases hq : P.info? e with
  | none => simp [hq] at hi
  | some i =>
    have hs : i.size = 1 := by simpa [hq] using hi
    simp [Instr.sliceAt, run_underlying hu, Instr.sureAddr, Instr.sliceBounds, sizeOf, typeInfo, hq, hs, hb]
/-- 'a[:]'. -/
theorem run_arr_all {P : Program} (w : World) (t e n : Nat) (hu : P.underlying t = some (.array n e)) (hi : (P.info? e).map (·.size) = some 1) (hn : 0 < n) (b off : Nat) :
    (Instr.sliceAt t (.pointer (some ⟨b, off, none⟩)) none none none).run P w = .ok (.slice (some ⟨b, off, none⟩) n n) w := by
  cases hq : P.info? e with
  | none => simp [hq] at hi
  | some i =>
    have hs : i.size = 1 := by simpa [hq] using hi
    simp [Instr.sliceAt, run_underlying hu, Instr.sureAddr, Instr.sliceBounds, sizeOf, typeInfo, hq, hs, Addr.add_lit]
/-- 'a[:h]'. -/
theorem run_arr_high {P : Program} (w : World) (t e n : Nat) (hu : P.underlying t = some (.array n e)) (hi : (P.info? e).map (·.size) = some 1) (hn : 0 < n) (b off h : Nat) (i : Int) (hih : i = (h : Int)) (hh : h ≤ n) :
    (Instr.sliceAt t (.pointer (some ⟨b, off, none⟩)) none (some (.int .i64 i)) none).run P w = .ok (.slice (some ⟨b, off, none⟩) h n) w := by
  subst hih
  have hb := run_bound (P := P) w h n .sliceAlen hh
  cases hq : P.info? e with
  | none => simp [hq] at hi
  | some i =>
    have hs : i.size = 1 := by simpa [hq] using hi
    simp [Instr.sliceAt, run_underlying hu, Instr.sureAddr, Instr.sliceBounds, sizeOf, typeInfo, hq, hs, hb, Addr.add_lit]

/-- A result that lies in memory, handed back. -/
theorem results_cell {fn : Func} {p : Tmp} {ty : TypeId} (h : fn.results = #[.cell p ty]) (tmps : Array Value) (P : Program) (w : World) :
    (results fn tmps).run P w = ((asAddr (tmps.getD p undef)).run P w).andThen fun a w₁ => (loadVar ty a).run P w₁ := by
  simp only [results, h]
  simp [Sem.run_bind, Result.andThen]
theorem ret_cell {P : Program} {fn : Func} {R : Ending → World → Prop} {a : Act} {w : World} (p : Tmp) (ty : TypeId) (h : fn.results = #[.cell p ty]) (b : Nat) (hp : a.tmps.getD p undef = .pointer (some ⟨b, 0, none⟩)) (d : TypeDesc) (hu : P.underlying ty = some d) (hd : (match d with | .struct _ | .array _ _ => true | _ => false) = true)
    (cs : List Value) (hi : (P.info? ty).map (·.size) = some cs.length) (T : TypeId) (fr : Nat × Nat) (hg : w.heap[b]? = some (.cells cs.toArray T fr)) (hdf : a.defers = []) (hR : R (.returned (.agg cs.toArray)) w) : bodyPost P fn R .ret a w := by
  refine bodyPost_ret (v := .agg cs.toArray) ?_ hdf hR
  rw [results_cell h, hp]
  have := run_load_agg (P := P) (w := w) ty d hu hd b 0 cs hi (fun j v hv => by rw [cell_of_row _ _ _ _ _ _ hg]; simpa using hv)
  simp [asAddr, Result.andThen, this]

/-- An element of an array that is held as a value, as a rule. -/
theorem run_index_agg {P : Program} (ty e : TypeId) (n : Nat) (hu : P.underlying ty = some (.array n e)) (d : TypeDesc) (hue : P.underlying e = some d) (hd : (match d with | .struct _ | .array _ _ => true | _ => false) = false) (hi : (P.info? e).map (·.size) = some 1)
    (cs : List Value) (k : Nat) (hk : k < n) (v : Value) (hv : cs[k]? = some v) (w : World) : (Instr.index ty (.agg cs.toArray) (.int .i64 k)).run P w = .ok v w := by
  have hag : (isAgg e).run P w = .ok false w := by
    unfold isAgg
    rw [Sem.run_bind, run_underlying hue w]
    cases d <;> simp_all
  have hkz : ((k : Nat) : Int) < (n : Int) := by omega
  cases hq : P.info? e with
  | none => simp [hq] at hi
  | some i =>
    have hs : i.size = 1 := by simpa [hq] using hi
    simp [Instr.index, asIntOf, run_underlying hu, sizeOf, typeInfo, hq, hs, part, hag, hk, hv]

/-- Words as cells. -/
def W32 (l : List Nat) : List Value := l.map fun (n : Nat) => Value.int .u32 (n : Int)
theorem W32_length (l : List Nat) : (W32 l).length = l.length := by simp [W32]
theorem W32_append (l r : List Nat) : W32 (l ++ r) = W32 l ++ W32 r := by simp [W32]
theorem W32_one (l : List Nat) : ∀ v ∈ W32 l, v.oneCell' = true := by
  intro v hv
  obtain ⟨_, _, rfl⟩ := List.mem_map.1 hv
  rfl
theorem W32_at (l : List Nat) (j : Nat) (h : j < l.length) : (W32 l)[j]? = some (.int .u32 ((l.getD j 0 : Nat) : Int)) := by
  simp [W32, List.getD, List.getElem?_eq_getElem h]
theorem W32_get (l : List Nat) (j : Nat) (v : Value) (h : (W32 l)[j]? = some v) : j < l.length ∧ v = .int .u32 ((l.getD j 0 : Nat) : Int) := by
  rcases Nat.lt_or_ge j l.length with hl | hl
  · rw [W32_at l j hl] at h; exact ⟨hl, (Option.some.inj h).symm⟩
  · rw [List.getElem?_eq_none (by simpa [W32] using hl)] at h; cases h

/-- A Hash's cells: it was made, its words, its block, its size. -/
def hc (l : List Nat) (blk : List UInt8) (n : Nat) : Array Value := (Value.bool true :: (W32 l ++ (U blk ++ [Value.int .i64 (n : Int)]))).toArray
theorem hc_toList (l : List Nat) (blk : List UInt8) (n : Nat) : (hc l blk n).toList = Value.bool true :: (W32 l ++ (U blk ++ [Value.int .i64 (n : Int)])) := rfl
section
variable {l : List Nat} {blk : List UInt8} {n : Nat} (hl : l.length = 8) (hb : blk.length = 64)
include hl hb
theorem hc_size : (hc l blk n).size = 74 := by simp [hc, W32, U, hl, hb]
theorem hc_made : (hc l blk n)[0]? = some (.bool true) := rfl
theorem hc_word (j : Nat) (h : j < 8) : (hc l blk n)[1 + j]? = some (.int .u32 ((l.getD j 0 : Nat) : Int)) := by
  have h1 : j < (W32 l).length := by rw [W32_length]; omega
  have := W32_at l j (by omega)
  simp only [hc, List.getElem?_toArray, Nat.add_comm 1 j, List.getElem?_cons_succ]
  rw [List.getElem?_append_left h1, this]
theorem hc_byte (j : Nat) (h : j < 64) : (hc l blk n)[9 + j]? = some (.int .u8 ((blk.getD j 0).toNat : Int)) := by
  have h1 : (W32 l).length = 8 := by rw [W32_length]; exact hl
  have h2 : j < (U blk).length := by rw [U_length]; omega
  have := U_at blk j (by omega)
  simp only [hc, List.getElem?_toArray, show 9 + j = (8 + j) + 1 by omega, List.getElem?_cons_succ]
  rw [List.getElem?_append_right (by omega), h1, Nat.add_sub_cancel_left, List.getElem?_append_left h2, this]
theorem hc_n : (hc l blk n)[73]? = some (.int .i64 (n : Int)) := by
  have h1 : (W32 l).length = 8 := by rw [W32_length]; exact hl
  have h2 : (U blk).length = 64 := by rw [U_length]; exact hb
  simp only [hc, List.getElem?_toArray, show 73 = 72 + 1 by rfl, List.getElem?_cons_succ]
  rw [List.getElem?_append_right (by omega), h1, List.getElem?_append_right (by omega), h2]
  rfl
theorem hc_set_n (m : Nat) : (hc l blk n).setIfInBounds 73 (.int .i64 (m : Int)) = hc l blk m := by
  have h1 : (W32 l).length = 8 := by rw [W32_length]; exact hl
  have h2 : (U blk).length = 64 := by rw [U_length]; exact hb
  apply Array.toList_inj.1
  rw [Array.toList_setIfInBounds, hc_toList, hc_toList, List.set_cons_succ, List.set_append_right _ _ (by omega), h1, List.set_append_right _ _ (by omega), h2]
  rfl
theorem hc_set_word (j : Nat) (h : j < 8) (x : Nat) : (hc l blk n).setIfInBounds (1 + j) (.int .u32 (x : Int)) = hc (l.set j x) blk n := by
  have h1 : (W32 l).length = 8 := by rw [W32_length]; exact hl
  apply Array.toList_inj.1
  rw [Array.toList_setIfInBounds, hc_toList, hc_toList, Nat.add_comm 1 j, List.set_cons_succ, List.set_append_left _ _ (by omega)]
  simp [W32, List.map_set]
theorem hc_splice (r : Nat) (new : List UInt8) (h : r + new.length ≤ 64) : splice (hc l blk n) (9 + r) (U new) = hc l (blk.take r ++ new ++ blk.drop (r + new.length)) n := by
  have h1 : (W32 l).length = 8 := by rw [W32_length]; exact hl
  have h2 : (U blk).length = 64 := by rw [U_length]; exact hb
  have e1 : (hc l blk n).toList = (Value.bool true :: W32 l) ++ (U blk ++ [Value.int .i64 (n : Int)]) := rfl
  have h9 : (Value.bool true :: W32 l).length = 9 := by simp [h1]
  unfold splice
  rw [e1, U_length, List.take_append, List.take_of_length_le (by omega), List.drop_append, List.drop_eq_nil_of_le (by omega), h9, Nat.add_sub_cancel_left, show 9 + r + new.length - 9 = r + new.length by omega,
    List.take_append_of_le_length (by omega), List.drop_append_of_le_length (by omega)]
  simp [hc, U]
theorem hc_set_byte (j : Nat) (h : j < 64) (c : UInt8) : (hc l blk n).setIfInBounds (9 + j) (.int .u8 (c.toNat : Int)) = hc l (blk.set j c) n := by
  have h1 : (W32 l).length = 8 := by rw [W32_length]; exact hl
  have h2 : (U blk).length = 64 := by rw [U_length]; exact hb
  apply Array.toList_inj.1
  rw [Array.toList_setIfInBounds, hc_toList, hc_toList, show 9 + j = (8 + j) + 1 by omega, List.set_cons_succ, List.set_append_right _ _ (by omega), h1, Nat.add_sub_cancel_left, List.set_append_left _ _ (by omega)]
  simp [U, List.map_set]
theorem hc_one : ∀ v ∈ (hc l blk n).toList, v.oneCell' = true := by
  intro v hv
  rw [hc_toList] at hv
  simp only [List.mem_cons, List.mem_append, List.not_mem_nil, or_false] at hv
  rcases hv with rfl | hv | hv | rfl
  · rfl
  · exact W32_one _ _ hv
  · exact U_one _ _ hv
  · rfl
end

/-- Block b is a Hash with these words, this block and this size. -/
def H (w : World) (b : Nat) (l : List Nat) (blk : List UInt8) (n : Nat) (T : TypeId) : Prop := l.length = 8 ∧ blk.length = 64 ∧ w.heap[b]? = some (.cells (hc l blk n) T (0, 0))
end Go.Proofs.YtgbbajeeelgbhaaGreatDoor.Dk

namespace Go.Proofs.YtgbbajeeelgbhaaGreatDoor.Dw
open Go.RowKit Kt Dk
set_option linter.unusedVariables false
set_option maxRecDepth 20000

theorem ret_int {k : IntKind} {a b : Int} (h : a = b) : Ending.returned (.int k a) = .returned (.int k b) := by rw [h]

theorem rotl_nat (x k : Nat) (hx : x < 4294967296) (h1 : 1 ≤ k) (h2 : k ≤ 31) : bits .or .u32 ((x : Int) * 2 ^ (32 - k) % 4294967296) ((x : Int) / 2 ^ k) = ((Dp.rotr k x : Nat) : Int) := by
  have e1 : (x : Int) * 2 ^ (32 - k) % 4294967296 = ((x * 2 ^ (32 - k) % 4294967296 : Nat) : Int) := by rw [Int.natCast_emod, Int.natCast_mul, Int.natCast_pow]; rfl
  have e2 : (x : Int) / 2 ^ k = ((x / 2 ^ k : Nat) : Int) := by rw [Int.natCast_ediv, Int.natCast_pow]; rfl
  rw [e1, e2, u32_or_nat _ _ (Nat.mod_lt _ (by decide)) (Dp.div_lt k hx), Nat.or_comm]
  rfl
theorem rotr_nat (x k : Nat) (hx : x < 4294967296) (h1 : 1 ≤ k) (h2 : k ≤ 31) : bits .or .u32 ((x : Int) / 2 ^ k) ((x : Int) * 2 ^ (32 - k) % 4294967296) = ((Dp.rotr k x : Nat) : Int) := by
  have e1 : (x : Int) * 2 ^ (32 - k) % 4294967296 = ((x * 2 ^ (32 - k) % 4294967296 : Nat) : Int) := by rw [Int.natCast_emod, Int.natCast_mul, Int.natCast_pow]; rfl
  have e2 : (x : Int) / 2 ^ k = ((x / 2 ^ k : Nat) : Int) := by rw [Int.natCast_ediv, Int.natCast_pow]; rfl
  rw [e1, e2, u32_or_nat _ _ (Dp.div_lt k hx) (Nat.mod_lt _ (by decide))]
  rfl

theorem rot_any (w : World) (x k : Nat) (hx : x < 4294967296) (h1 : 1 ≤ k) (h2 : k ≤ 31) :
    Calls Tryz.prog 403 #[.int .u32 x, .int .i64 (-(k : Int))] w fun e w' => e = .returned (.int .u32 (Dp.rotr k x : Nat)) ∧ w' = w := by
  have e1 : bits .and .u64 (IntKind.u64.wrap (-(k : Int))) 31 = ((32 - k : Nat) : Int) := by
    have : IntKind.u64.wrap (-(k : Int)) = ((18446744073709551616 - k : Nat) : Int) := by
      simp [IntKind.wrap, IntKind.bits, IntKind.signed]; omega
    rw [this, show (31 : Int) = ((31 : Nat) : Int) by rfl, u64_and_nat _ _ (by omega) (by omega), nat_mask5]
    omega
  have HR := mkH (rotl_nat x k hx h1 h2)
  obtain ⟨m, hm⟩ : ∃ m, 32 - k = m := ⟨_, rfl⟩
  have hk : k = 32 - m := by omega
  rw [hm] at e1 HR
  have hm1 : m ≤ 31 := by omega
  have hm2 : 1 ≤ m := by omega
  have HK : Hid (k = 32 - m) := hk
  clear hm hk
  go_enter Tryz.func403, Tryz.ntmps403
  go_wp2
  go_ret
  refine ⟨ret_int ?_, rfl⟩
  rw [← HR.out]
  congr 2
  rw [← HK.out]

theorem turn_any (w : World) (x k : Nat) (hx : x < 4294967296) (h1 : 1 ≤ k) (h2 : k ≤ 31) :
    Calls Tryz.prog 402 #[.int .u32 x, .int .i64 k] w fun e w' => e = .returned (.int .u32 (Dp.rotr k x : Nat)) ∧ w' = w := by
  go_enter Tryz.func402, Tryz.ntmps402
  go_wp2_with (go_at_call 403; refine (rot_any _ _ _ hx h1 h2).mono ?_; rintro e w' ⟨rfl, rfl⟩)
  go_ret
  exact ⟨rfl, rfl⟩

theorem refTurn_any (w : World) (x k : Nat) (hx : x < 4294967296) (h1 : 1 ≤ k) (h2 : k ≤ 31) :
    Calls Tryz.prog 359 #[.int .u32 x, .int .i64 k] w fun e w' => e = .returned (.int .u32 (Dp.rotr k x : Nat)) ∧ ∃ n, w' = w.drewN n := by
  have HR := mkH (rotr_nat x k hx h1 h2)
  go_enter Tryz.func359, Tryz.ntmps359
  go_wp2
  go_quiet (fail)
  go_wp2
  go_ret
  exact ⟨ret_int HR.out, _, rfl⟩

theorem big_nat (x i j k : Nat) (hx : x < 4294967296) : bits .xor .u32 (bits .xor .u32 ((Dp.rotr i x : Nat) : Int) ((Dp.rotr j x : Nat) : Int)) ((Dp.rotr k x : Nat) : Int) = ((Dp.big i j k x : Nat) : Int) := by
  have h1 := Dp.rotr_lt i hx
  have h2 := Dp.rotr_lt j hx
  have h3 := Dp.rotr_lt k hx
  rw [u32_xor_nat _ _ h1 h2, u32_xor_nat _ _ (Dp.xor_lt h1 h2) h3]; rfl
theorem lil_nat (x i j k : Nat) (hx : x < 4294967296) : bits .xor .u32 (bits .xor .u32 ((Dp.rotr i x : Nat) : Int) ((Dp.rotr j x : Nat) : Int)) ((x / 2 ^ k : Nat) : Int) = ((Dp.lil i j k x : Nat) : Int) := by
  have h1 := Dp.rotr_lt i hx
  have h2 := Dp.rotr_lt j hx
  have h3 := Dp.div_lt k hx
  rw [u32_xor_nat _ _ h1 h2, u32_xor_nat _ _ (Dp.xor_lt h1 h2) h3]; rfl

set_option maxHeartbeats 1000000 in
theorem turned_any (w : World) (x i j k : Nat) (hx : x < 4294967296) (hi : 1 ≤ i ∧ i ≤ 31) (hj : 1 ≤ j ∧ j ≤ 31) (hk : 1 ≤ k ∧ k ≤ 31) :
    Calls Tryz.prog 400 #[.int .u32 x, .int .i64 i, .int .i64 j, .int .i64 k] w fun e w' => e = .returned (.int .u32 (Dp.big i j k x : Nat)) ∧ w' = w := by
  have HR := mkH (big_nat x i j k hx)
  go_enter Tryz.func400, Tryz.ntmps400
  go_wp2_with fail
  refine (turn_any _ _ _ hx hi.1 hi.2).mono ?_
  rintro e w' ⟨rfl, rfl⟩
  go_wp2_with fail
  refine (turn_any _ _ _ hx hj.1 hj.2).mono ?_
  rintro e w' ⟨rfl, rfl⟩
  go_wp2_with fail
  refine (turn_any _ _ _ hx hk.1 hk.2).mono ?_
  rintro e w' ⟨rfl, rfl⟩
  go_wp2
  go_ret
  exact ⟨ret_int HR.out, rfl⟩

theorem word_nat (b0 b1 b2 b3 : Nat) (l0 : b0 < 256) (l1 : b1 < 256) (l2 : b2 < 256) (l3 : b3 < 256) :
    bits .or .u32 (bits .or .u32 (bits .or .u32 ((b0 : Int) * 16777216) ((b1 : Int) * 65536)) ((b2 : Int) * 256)) (b3 : Int) = ((b0 * 16777216 + b1 * 65536 + b2 * 256 + b3 : Nat) : Int) := by
  rw [show (b0 : Int) * 16777216 = ((b0 * 16777216 : Nat) : Int) by omega, show (b1 : Int) * 65536 = ((b1 * 65536 : Nat) : Int) by omega, show (b2 : Int) * 256 = ((b2 * 256 : Nat) : Int) by omega]
  rw [u32_or_nat _ _ (by omega) (by omega), nat_join 24 (b0 * 16777216) (b1 * 65536) (by omega) (by omega),
    u32_or_nat _ _ (by omega) (by omega), nat_join 16 _ (b2 * 256) (by omega) (by omega),
    u32_or_nat _ _ (by omega) (by omega), nat_join 8 _ b3 (by omega) (by omega)]

theorem word_any (w : World) (b off m c : Nat) (b0 b1 b2 b3 : Nat) (h0 : w.cell? ⟨b, off, none⟩ = some (.int .u8 b0)) (h1 : w.cell? ⟨b, off + 1, none⟩ = some (.int .u8 b1)) (h2 : w.cell? ⟨b, off + 2, none⟩ = some (.int .u8 b2)) (h3 : w.cell? ⟨b, off + 3, none⟩ = some (.int .u8 b3))
   (l0 : b0 < 256) (l1 : b1 < 256) (l2 : b2 < 256) (l3 : b3 < 256) (hm : 4 ≤ m) (hm2 : m ≤ 1000000) :
    Calls Tryz.prog 401 #[.slice (some ⟨b, off, none⟩) m c] w fun e w' => e = .returned (.int .u32 (b0 * 16777216 + b1 * 65536 + b2 * 256 + b3 : Nat)) ∧ ∃ n, w' = w.drewN n := by
  have HR := mkH (word_nat b0 b1 b2 b3 l0 l1 l2 l3)
  go_enter Tryz.func401, Tryz.ntmps401
  go_wp2
  go_quiet (fail)
  go_wp2
  go_ret
  exact ⟨ret_int HR.out, _, rfl⟩

theorem isMade_any (w : World) (b : Nat) (h : w.cell? ⟨b, 0, none⟩ = some (.bool true)) :
    Calls Tryz.prog 394 #[.pointer (some ⟨b, 0, none⟩)] w fun e w' => e = .returned (.bool true) ∧ w' = w := by
  go_enter Tryz.func394, Tryz.ntmps394
  go_wp2
  go_ret
  exact ⟨rfl, rfl⟩
theorem isMade_not (w : World) (b : Nat) (h : w.cell? ⟨b, 0, none⟩ = some (.bool false)) :
    Calls Tryz.prog 394 #[.pointer (some ⟨b, 0, none⟩)] w fun e w' => e = .returned (.bool false) ∧ w' = w := by
  go_enter Tryz.func394, Tryz.ntmps394
  go_wp2
  go_ret
  exact ⟨rfl, rfl⟩
theorem isMade_nil (w : World) :
    Calls Tryz.prog 394 #[.pointer none] w fun e w' => e = .returned (.bool false) ∧ w' = w := by
  go_enter Tryz.func394, Tryz.ntmps394
  go_wp2
  go_ret
  exact ⟨rfl, rfl⟩

theorem put4 (C : Array Value) (o : Nat) (v0 v1 v2 v3 : Value) (h : o + 4 ≤ C.size) : (((C.setIfInBounds o v0).setIfInBounds (o + 1) v1).setIfInBounds (o + 2) v2).setIfInBounds (o + 3) v3 = splice C o [v0, v1, v2, v3] := by
  apply Array.ext_getElem?
  intro i
  simp only [splice, List.getElem?_toArray, Array.getElem?_setIfInBounds, Array.size_setIfInBounds, List.length_cons, List.length_nil]
  simp only [List.append_assoc, List.getElem?_append, List.length_take, Array.length_toList, List.length_cons, List.length_nil, show min o C.size = o by omega, List.getElem?_take, List.getElem?_drop, Array.getElem?_toList]
  by_cases h1 : i < o
  · simp [h1, show o + 3 ≠ i by omega, show o + 2 ≠ i by omega, show o + 1 ≠ i by omega, show o ≠ i by omega]
  · by_cases h2 : i < o + 4
    · obtain h | h | h | h : i = o ∨ i = o + 1 ∨ i = o + 2 ∨ i = o + 3 := by omega
      · subst h; simp [show i < C.size by omega]
      · subst h; simp [show o + 1 < C.size by omega, show ¬ (o + 1 < o) by omega]
      · subst h; simp [show o + 2 < C.size by omega, show ¬ (o + 2 < o) by omega]
      · subst h; simp [show o + 3 < C.size by omega, show ¬ (o + 3 < o) by omega]
    · simp [h1, show o + 3 ≠ i by omega, show o + 2 ≠ i by omega, show o + 1 ≠ i by omega, show o ≠ i by omega, show ¬ (i - o < 4) by omega, show o + 4 + (i - o - 4) = i by omega]

theorem U_bytes4 (x : Nat) (hx : x < 4294967296) : U (Dp.bytes4 x) = [.int .u8 ((x : Int) / 16777216), .int .u8 ((x : Int) / 65536 % 256), .int .u8 ((x : Int) / 256 % 256), .int .u8 ((x : Int) % 256)] := by
  have h1 : (x : Int) / 16777216 = ((UInt8.ofNat (x / 16777216)).toNat : Int) := by rw [UInt8.toNat_ofNat']; omega
  have h2 : (x : Int) / 65536 % 256 = ((UInt8.ofNat (x / 65536)).toNat : Int) := by rw [UInt8.toNat_ofNat']; omega
  have h3 : (x : Int) / 256 % 256 = ((UInt8.ofNat (x / 256)).toNat : Int) := by rw [UInt8.toNat_ofNat']; omega
  have h4 : (x : Int) % 256 = ((UInt8.ofNat x).toNat : Int) := by rw [UInt8.toNat_ofNat']; omega
  simp only [U, Dp.bytes4, List.map_cons, List.map_nil]
  rw [← h1, ← h2, ← h3, ← h4]

set_option maxHeartbeats 1000000 in
theorem putWord_any (w : World) (b off m c x : Nat) (C : Array Value) (T : TypeId) (hg : w.heap[b]? = some (.cells C T (0, 0))) (hm : 4 ≤ m) (hm2 : m ≤ 1000000) (hC : off + 4 ≤ C.size) (hx : x < 4294967296) :
    Calls Tryz.prog 397 #[.slice (some ⟨b, off, none⟩) m c, .int .u32 x] w fun e w' => (∃ v, e = .returned v) ∧ w' = w.setRow b (splice C off (U (Dp.bytes4 x))) := by
  have HW : Hid ((((w.setCell ⟨b, off, none⟩ (.int .u8 ((x : Int) / 16777216))).setCell ⟨b, off + 1, none⟩ (.int .u8 ((x : Int) / 65536 % 256))).setCell ⟨b, off + 2, none⟩ (.int .u8 ((x : Int) / 256 % 256))).setCell ⟨b, off + 3, none⟩ (.int .u8 ((x : Int) % 256)) = w.setRow b (splice C off (U (Dp.bytes4 x)))) := by
    unfold Hid
    rw [setCell_eq_setRow w b off C T (0, 0) _ hg, setCell_eq_setRow _ b (off + 1) _ T (0, 0) _ (setRow_heap w b C _ T (0, 0) hg), setRow_setRow,
      setCell_eq_setRow _ b (off + 2) _ T (0, 0) _ (setRow_heap w b C _ T (0, 0) hg), setRow_setRow, setCell_eq_setRow _ b (off + 3) _ T (0, 0) _ (setRow_heap w b C _ T (0, 0) hg), setRow_setRow, put4 C off _ _ _ _ hC, ← U_bytes4 x hx]
  have c0 : ∃ v, w.cell? ⟨b, off, none⟩ = some v := ⟨_, by rw [cell_of_row w b off C T (0, 0) hg]; exact Array.getElem?_eq_getElem (by omega)⟩
  have c1 : ∃ v, w.cell? ⟨b, off + 1, none⟩ = some v := ⟨_, by rw [cell_of_row w b _ C T (0, 0) hg]; exact Array.getElem?_eq_getElem (by omega)⟩
  have c2 : ∃ v, w.cell? ⟨b, off + 2, none⟩ = some v := ⟨_, by rw [cell_of_row w b _ C T (0, 0) hg]; exact Array.getElem?_eq_getElem (by omega)⟩
  have c3 : ∃ v, w.cell? ⟨b, off + 3, none⟩ = some v := ⟨_, by rw [cell_of_row w b _ C T (0, 0) hg]; exact Array.getElem?_eq_getElem (by omega)⟩
  obtain ⟨v0, c0⟩ := c0
  obtain ⟨v1, c1⟩ := c1
  obtain ⟨v2, c2⟩ := c2
  obtain ⟨v3, c3⟩ := c3
  have hf : ∀ j, w.frozen? ⟨b, j, none⟩ = false := fun j => by simp [World.frozen?, hg]
  clear hg
  go_enter Tryz.func397, Tryz.ntmps397
  go_wp2
  refine bodyPost_end (results_none rfl _ _ _) rfl ?_
  exact ⟨⟨_, rfl⟩, HW.out⟩
end Go.Proofs.YtgbbajeeelgbhaaGreatDoor.Dw
