/-
  GpP Kit Kit2 KitS GpF, joined by mrg.py.
-/
import Derived.Deep.AppendSrc
import Derived.WalkKit
import Derived.WalkSpells
import Derived.WalkLawsBesides
import Derived.Laws.BytesArg
import Derived.OpenShut
import Derived.Test.YtgbbajeeelgbhaaGreatDoorRows
import Derived.Deep.WholeRow
import Derived.Deep.OwnRows
import Derived.Lib.SliceRun
import Derived.Deep.RegionHeld3
import Derived.Deep.RegionLaw
import Derived.Deep.QuietTactic
import Derived.BigQuiet
import Derived.Lib.SlBytesConst

namespace Go.Proofs.YtgbbajeeelgbhaaGreatDoor.Gp
set_option linter.unusedVariables false

/-- A message that is kept. -/
structure K where
  seq : Int
  sent : Int
  cnt : Int
  till : Int
  frm : Int
  body : ByteArray
  deriving DecidableEq

/-- A token that is remembered. -/
structure M where
  tok : ByteArray
  seq : Int
  ti : Int
  deriving DecidableEq

/-- A group. -/
structure G where
  next : Int
  kept : List K
  marks : List M
  att : ByteArray
  deriving DecidableEq

/-- Numbers that may be: so small that sums of two stay numbers. -/
def Sm (n : Int) : Prop := 0 ≤ n ∧ n ≤ 1152921504606846976
def OkK (m : K) : Prop := Sm m.seq ∧ Sm m.sent ∧ Sm m.cnt ∧ Sm m.till ∧ Sm m.frm
def OkM (m : M) : Prop := Sm m.seq ∧ Sm m.ti
def OkG (g : G) : Prop := Sm g.next ∧ (∀ m ∈ g.kept, OkK m) ∧ (∀ m ∈ g.marks, OkM m)

def fly (now : Int) (m : K) : Bool := decide (now < m.till)
def flying (g : G) (now : Int) : Bool := g.kept.any (fly now)

def expire (g : G) (now keep : Int) : G :=
  ⟨g.next, g.kept.filter (fun m => !decide (keep ≤ now - m.sent)), g.marks.filter (fun m => !decide (300 ≤ now - m.ti)), g.att⟩

/-- The place of the first that fits, from i on. -/
def idx {α : Type} (p : α → Bool) : List α → Option Nat
  | [] => none
  | x :: t => if p x then some 0 else (idx p t).map (· + 1)

def entered (g : G) (now frm : Int) (body : ByteArray) : G :=
  ⟨g.next + 1, g.kept ++ [⟨g.next, now, 0, 0, frm, body⟩], g.marks, g.att⟩

/-- What Send leaves, with the token that counts. -/
def sendG (g : G) (now frm : Int) (body tok : ByteArray) : G :=
  match g.marks.find? (fun m => decide (m.tok = tok)) with
  | some _ => g
  | none => if 12 ≤ g.kept.length ∨ 40 ≤ g.marks.length then g else
    ⟨g.next + 1, g.kept ++ [⟨g.next, now, 0, 0, frm, body⟩], g.marks ++ [⟨tok, g.next, now⟩], g.att⟩
def sendN (g : G) (tok : ByteArray) : Int :=
  match g.marks.find? (fun m => decide (m.tok = tok)) with
  | some m => m.seq
  | none => if 12 ≤ g.kept.length ∨ 40 ≤ g.marks.length then 0 else g.next
def sendE (g : G) (tok : ByteArray) : Int :=
  match g.marks.find? (fun m => decide (m.tok = tok)) with
  | some m => 0
  | none => if 12 ≤ g.kept.length ∨ 40 ≤ g.marks.length then 7 else 0

def worn (most : Int) (m : K) : Bool := decide (0 < most) && decide (most ≤ m.cnt)
def given (now secs : Int) (m : K) : K := ⟨m.seq, m.sent, m.cnt + 1, now + secs, m.frm, m.body⟩
/-- Does it end at m, with so many got and dead? -/
def ends (mx most room : Int) (got dead : Nat) (m : K) : Bool := decide (mx ≤ (got : Int)) || (worn most m && decide (room ≤ (dead : Int)))

/-- Receive's loop: got, dead, and what is behind. -/
def rcv (now mx secs most room : Int) : List K → List K → List K → List K × List K × List K
  | got, dead, [] => (got, dead, [])
  | got, dead, m :: t =>
    if ends mx most room got.length dead.length m then (got, dead, m :: t)
    else if worn most m then rcv now mx secs most room got (dead ++ [m]) t
    else rcv now mx secs most room (got ++ [given now secs m]) dead t

def rcvG (g : G) (now mx secs most room : Int) : G :=
  if flying g now then g else
    let r := rcv now mx secs most room [] [] g.kept
    ⟨g.next, r.1 ++ r.2.2, g.marks, g.att⟩
def rcvGot (g : G) (now mx secs most room : Int) : List K := if flying g now then [] else (rcv now mx secs most room [] [] g.kept).1
def rcvDead (g : G) (now mx secs most room : Int) : List K := if flying g now then [] else (rcv now mx secs most room [] [] g.kept).2.1

def again (g : G) (now : Int) (mx : Nat) (att : ByteArray) : List K :=
  if att = ByteArray.empty ∨ att ≠ g.att then [] else (g.kept.filter (fly now)).take mx

/-- What of a list is told again. -/
def againL (now : Int) (mx : Nat) (l : List K) : List K := (l.filter (fly now)).take mx
/-- About which message a receipt is: its place; else the error. -/
def about (g : G) (now seq cnt : Int) : Nat × Int :=
  match idx (fun m : K => m.seq == seq) g.kept with
  | none => (0, 8)
  | some i => match g.kept[i]? with
    | none => (0, 8)
    | some m => if m.cnt ≠ cnt then (0, 12) else if fly now m then (i, 0) else (0, 13)

def none' : G := ⟨0, [], [], ByteArray.empty⟩
def delG (g : G) (now seq cnt : Int) : G :=
  if (about g now seq cnt).2 = 0 then ⟨g.next, g.kept.eraseIdx (about g now seq cnt).1, g.marks, g.att⟩
  else if (about g now seq cnt).2 = 8 then g else none'
def delE (g : G) (now seq cnt : Int) : Int := if (about g now seq cnt).2 = 8 then 0 else (about g now seq cnt).2
def setTill (l : List K) (i : Nat) (v : Int) : List K := match l[i]? with
  | some m => l.set i ⟨m.seq, m.sent, m.cnt, v, m.frm, m.body⟩
  | none => l
def chgG (g : G) (now seq cnt secs : Int) : G :=
  if (about g now seq cnt).2 = 0 then ⟨g.next, setTill g.kept (about g now seq cnt).1 (now + secs), g.marks, g.att⟩ else none'
def chgE (g : G) (now seq cnt : Int) : Int := (about g now seq cnt).2

/-! What is known of them. -/
theorem idx_spec {α : Type} (p : α → Bool) (l : List α) : (idx p l = none ∧ ∀ x ∈ l, p x = false) ∨ ∃ i x, idx p l = some i ∧ l[i]? = some x ∧ p x = true ∧ ∀ j y, j < i → l[j]? = some y → p y = false := by
  induction l with
  | nil => exact .inl ⟨rfl, fun x hx => by cases hx⟩
  | cons a t ih =>
    cases h : p a with
    | true => exact .inr ⟨0, a, by simp [idx, h], by simp, h, fun j y hj => by omega⟩
    | false =>
      rcases ih with ⟨e, ha⟩ | ⟨i, x, e, hx, hp, ha⟩
      · refine .inl ⟨by simp [idx, h, e], fun x hx => ?_⟩
        rcases List.mem_cons.1 hx with rfl | hx
        · exact h
        · exact ha x hx
      · refine .inr ⟨i + 1, x, by simp [idx, h, e], by simpa using hx, hp, fun j y hj hy => ?_⟩
        cases j with
        | zero => simp at hy; rw [← hy]; exact h
        | succ j => exact ha j y (by omega) (by simpa using hy)
theorem idx_take {α : Type} (p : α → Bool) (l : List α) (i : Nat) (x : α) (hx : l[i]? = some x) (hp : p x = true) (h : ∀ j y, j < i → l[j]? = some y → p y = false) : idx p l = some i := by
  rcases idx_spec p l with ⟨e, ha⟩ | ⟨k, y, e, hy, hpy, ha⟩
  · have := ha x (List.mem_of_getElem? hx); rw [hp] at this; cases this
  · rcases Nat.lt_trichotomy k i with hk | hk | hk
    · have := h k y hk hy; rw [hpy] at this; cases this
    · rw [e, hk]
    · have := ha i x hk hx; rw [hp] at this; cases this
theorem idx_none {α : Type} (p : α → Bool) (l : List α) (h : ∀ x ∈ l, p x = false) : idx p l = none := by
  rcases idx_spec p l with ⟨e, _⟩ | ⟨k, y, e, hy, hpy, _⟩
  · exact e
  · have := h y (List.mem_of_getElem? hy); rw [hpy] at this; cases this
theorem idx_lt {α : Type} {p : α → Bool} {l : List α} {i : Nat} (h : idx p l = some i) : i < l.length := by
  rcases idx_spec p l with ⟨e, _⟩ | ⟨k, y, e, hy, _⟩
  · rw [h] at e; cases e
  · rw [h] at e; cases e; exact (List.getElem?_eq_some_iff.1 hy).1
theorem idx_any {α : Type} (p : α → Bool) (l : List α) : (idx p l).isSome = l.any p := by
  induction l with
  | nil => rfl
  | cons a t ih => cases h : p a <;> simp [idx, h, ih]
theorem idx_find {α : Type} (p : α → Bool) (l : List α) : (idx p l).bind (fun i => l[i]?) = l.find? p := by
  induction l with
  | nil => rfl
  | cons a t ih =>
    cases h : p a with
    | true => simp [idx, h]
    | false =>
      simp only [idx, h, List.find?]
      rw [← ih]
      cases idx p t <;> simp

def idxI {α : Type} (p : α → Bool) (l : List α) : Int := match idx p l with | none => -1 | some i => (i : Int)
theorem idxI_none {α : Type} (p : α → Bool) (l : List α) (h : ∀ j x, j < l.length → l[j]? = some x → p x = false) : idxI p l = -1 := by
  unfold idxI
  rw [idx_none p l (fun x hx => by obtain ⟨i, hi⟩ := List.getElem?_of_mem hx; exact h i x (List.getElem?_eq_some_iff.1 hi).1 hi)]
theorem idxI_some {α : Type} (p : α → Bool) (l : List α) (i : Nat) (x : α) (hx : l[i]? = some x) (hp : p x = true) (h : ∀ j y, j < i → l[j]? = some y → p y = false) : idxI p l = (i : Int) := by
  unfold idxI
  rw [idx_take p l i x hx hp h]

theorem rcv_stop {now mx secs most room : Int} {gt dd t : List K} {x : K} (h : mx ≤ (gt.length : Int) ∨ (0 < most ∧ most ≤ x.cnt ∧ room ≤ (dd.length : Int))) : rcv now mx secs most room gt dd (x :: t) = (gt, dd, x :: t) := by
  rw [rcv, if_pos]
  unfold ends worn
  rcases h with h | ⟨h1, h2, h3⟩
  · simp [h]
  · simp [h1, h2, h3]
theorem rcv_dead {now mx secs most room : Int} {gt dd t : List K} {x : K} (h0 : ¬ mx ≤ (gt.length : Int)) (h1 : 0 < most) (h2 : most ≤ x.cnt) (h3 : ¬ room ≤ (dd.length : Int)) : rcv now mx secs most room gt dd (x :: t) = rcv now mx secs most room gt (dd ++ [x]) t := by
  rw [rcv, if_neg, if_pos]
  · unfold worn; simp [h1, h2]
  · unfold ends worn; simp only [decide_eq_false h0, decide_eq_false h3]; simp
theorem rcv_give {now mx secs most room : Int} {gt dd t : List K} {x : K} (h0 : ¬ mx ≤ (gt.length : Int)) (h1 : ¬ 0 < most ∨ ¬ most ≤ x.cnt) : rcv now mx secs most room gt dd (x :: t) = rcv now mx secs most room (gt ++ [given now secs x]) dd t := by
  have hw : worn most x = false := by
    unfold worn
    rcases h1 with h | h
    · rw [decide_eq_false h]; rfl
    · rw [decide_eq_false h]; simp
  rw [rcv, if_neg, if_neg]
  · rw [hw]; simp
  · unfold ends; rw [hw, decide_eq_false h0]; simp

theorem againL_snoc (now : Int) (mx : Nat) (l : List K) (j : Nat) (x : K) (hx : l[j]? = some x) : againL now mx (l.take (j + 1)) = if (againL now mx (l.take j)).length < mx ∧ fly now x = true then againL now mx (l.take j) ++ [x] else againL now mx (l.take j) := by
  have e : l.take (j + 1) = l.take j ++ [x] := by rw [List.take_add_one, hx]; rfl
  unfold againL
  rw [e, List.filter_append]
  generalize (l.take j).filter (fly now) = F
  cases h : fly now x with
  | false => simp [h]
  | true =>
    have : List.filter (fly now) [x] = [x] := by simp [h]
    rw [this, List.length_take]
    by_cases hlt : F.length < mx
    · rw [if_pos ⟨by omega, rfl⟩, List.take_of_length_le (by simp; omega), List.take_of_length_le (by omega)]
    · rw [if_neg (by omega), List.take_append_of_le_length (by omega)]

theorem ok_expire {g : G} (h : OkG g) (now keep : Int) : OkG (expire g now keep) :=
  ⟨h.1, fun m hm => h.2.1 m (List.mem_filter.1 hm).1, fun m hm => h.2.2 m (List.mem_filter.1 hm).1⟩
end Go.Proofs.YtgbbajeeelgbhaaGreatDoor.Gp

namespace Go.Proofs.YtgbbajeeelgbhaaGreatDoor.Kt
open Go.RowKit

theorem mkH {p : Prop} (h : p) : Hid p := h

/-- Bytes as cells. -/
def U (bs : List UInt8) : List Value := bs.map fun b => Value.int .u8 (b.toNat : Int)
theorem U_length (bs : List UInt8) : (U bs).length = bs.length := by simp [U]
theorem U_append (a b : List UInt8) : U (a ++ b) = U a ++ U b := by simp [U]
theorem U_one (bs : List UInt8) : ∀ u ∈ U bs, u.oneCell' = true := by
  intro u hu
  obtain ⟨_, _, rfl⟩ := List.mem_map.1 hu
  rfl
theorem U_get (bs : List UInt8) (j : Nat) (u : Value) (h : (U bs)[j]? = some u) : j < bs.length ∧ u = .int .u8 ((bs.getD j 0).toNat : Int) := by
  rcases Nat.lt_or_ge j bs.length with hl | hl
  · simp [U, List.getElem?_eq_getElem hl] at h
    exact ⟨hl, by simp [List.getD, List.getElem?_eq_getElem hl, h]⟩
  · rw [List.getElem?_eq_none (by simpa [U] using hl)] at h; cases h
theorem U_at (bs : List UInt8) (j : Nat) (h : j < bs.length) : (U bs)[j]? = some (.int .u8 ((bs.getD j 0).toNat : Int)) := by
  simp [U, List.getD, List.getElem?_eq_getElem h]

/-- A slice of bytes, as it is read: its length is the list's; where it has an element it leads to a row of cells. -/
def Row (w : World) (ao : Option Addr) (bs : List UInt8) : Prop :=
  0 < bs.length → ∃ b off, ao = some ⟨b, off, none⟩ ∧ ∀ i, i < bs.length → w.cell? ⟨b, off + i, none⟩ = some (.int .u8 ((bs.getD i 0).toNat : Int))

theorem Row.nil (w : World) (ao : Option Addr) : Row w ao [] := fun h => by simp at h

theorem Row.below {w w' : World} {ao : Option Addr} {bs : List UInt8} (h : Row w ao bs) (hb : Below w.heap.size w w') : Row w' ao bs := by
  intro hl
  obtain ⟨b, off, e, hc⟩ := h hl
  refine ⟨b, off, e, fun i hi => ?_⟩
  have h1 := hc i hi
  rw [hb.cell (p := ⟨b, off + i, none⟩) (World.block_lt_of_cell? w _ h1)]
  exact h1

/-- An owned row of bytes is read so. -/
theorem Row.own {w : World} {base e n : Nat} {ao : Option Addr} {cap : Nat} {bs : List UInt8} (h : w.ownsRow base e 1 (.slice ao n cap) n (U bs)) : n = bs.length ∧ n ≤ cap ∧ Row w ao bs := by
  have hn : n = bs.length := by have := h.1; rw [U_length] at this; omega
  subst hn
  refine ⟨rfl, ?_, fun hl => ?_⟩
  · rcases h.2 with ⟨e1, e2⟩ | ⟨g, c, cur, e1, _, _, e2, _⟩
    · simp [e2]
    · simp only [Value.slice.injEq] at e1; omega
  · rcases h.2 with ⟨e1, e2⟩ | ⟨g, c, cur, e1, _, hg, _, _, _, ht⟩
    · omega
    · simp only [Value.slice.injEq] at e1
      obtain ⟨rfl, _, rfl⟩ := e1
      refine ⟨g, 0, rfl, fun i hi => ?_⟩
      have := World.ownsRow.cellAt h i (by omega)
      rw [Nat.zero_add, this, U_at bs i hi]

/-- What append takes of such a slice. -/
theorem Row.src {P : Program} {w : World} {tx e' : TypeId} (hk : P.underlying tx = some (.slice e')) {ao : Option Addr} {bs : List UInt8} (h : Row w ao bs) (c : Nat) :
    Src P 1 tx (.slice ao bs.length c) bs.length (U bs) w := by
  by_cases h0 : 0 < bs.length
  · obtain ⟨b, off, rfl, hc⟩ := h h0
    refine Src.ofSlice w hk _ _ c _ (by simp [U]) (fun j u hj => ?_) (U_one bs)
    obtain ⟨hl, rfl⟩ := U_get bs j u hj
    have : (⟨b, off, none⟩ : Addr).add j = ⟨b, off + j, none⟩ := by unfold Addr.add; split <;> simp_all
    rw [this]; exact hc j hl
  · have e : bs = [] := List.eq_nil_of_length_eq_zero (by omega)
    subst e
    cases ao with
    | none => exact Src.ofNil w hk c
    | some a => exact Src.ofSlice w hk a 0 c [] (by simp) (fun j u hj => by simp at hj) (fun u hu => by cases hu)

/-- One new byte, laid in a block of its own. -/
theorem src_one {P : Program} {tx e' T : TypeId} (hk : P.underlying tx = some (.slice e')) (w : World) (X : Int) (c : UInt8) (hX : X = (c.toNat : Int)) :
    Src P 1 tx (.slice (some ⟨w.heap.size, 0, none⟩) 1 1) 1 (U [c]) (w.alloc (.cells #[.int .u8 X] T)) := by
  subst hX
  refine Src.ofSlice _ hk _ _ 1 _ (by simp [U]) (fun j u hj => ?_) (U_one [c])
  obtain ⟨hl, rfl⟩ := U_get [c] j u hj
  simp only [List.length_cons, List.length_nil] at hl
  obtain rfl : j = 0 := by omega
  exact cell_one_new _ _ _ 0 _ rfl

section
variable {P : Program} (w : World)

/-- 'append(v, x...)' onto a row of the call's own, from whatever source. -/
theorem run_append_own_src (base : Nat) (t tx ty e : TypeId) (i : TypeInfo) (z : Value) (size bytes : Nat) (ht : P.underlying t = some (.slice e)) (hi : P.info? e = some i) (hz : i.zero = some z)
    (hsize : i.size = size) (hby : i.bytes = bytes) (hzs : z.cells.size = size) (hsz : 0 < size)
    (v : Value) (n : Nat) (xs : List Value) (hown : w.ownsRow base e size v n xs) (x : Value) (m : Nat) (news : List Value) (hs : Src P size tx x m news w)
    (h63 : n + m ≤ maxLen) (hbytes : (n + m) * bytes ≤ 140737488355328) (hbase : base ≤ w.heap.size) :
    ∃ v' w', (Builtin.append_ #[t, tx] ty #[v, x]).run P w = .ok v' w' ∧ w'.ownsRow base e size v' (n + m) (xs ++ news) ∧ w.grownBy w' v.ownBlock := by
  subst hsize
  subst hby
  have hl := hs.newsLen
  have hsmall : n + m ≤ 9223372036854775807 := by simp only [maxLen] at h63; omega
  have hlen : (xs ++ news).length = (n + m) * i.size := by rw [List.length_append, hown.1, hl, Nat.add_mul]
  have grown : ∀ (old : Nat), old < n + m → ∀ (row : Option Nat),
      (w.drew.alloc (.cells ((xs ++ news).toArray ++ Builtin.zeroCells z.cells (grownCap w (n + m) old e - (n + m))) e)).ownsRow base e i.size
        (.slice (some ⟨w.heap.size, 0, none⟩) (n + m) (grownCap w (n + m) old e)) (n + m) (xs ++ news) ∧
      w.grownBy (w.drew.alloc (.cells ((xs ++ news).toArray ++ Builtin.zeroCells z.cells (grownCap w (n + m) old e - (n + m))) e)) row := by
    intro old ho row
    have hge := grownCap_ge w (n + m) old e
    have hcm : grownCap w (n + m) old e ≤ maxLen := grownCap_le_maxLen w (n + m) old e h63
    refine ⟨⟨hlen, .inr ⟨w.heap.size, _, _, rfl, hbase, heap_alloc_new w.drew _, hge, hcm, ?_, ?_⟩⟩, ⟨rfl, rfl, rfl, by simp, fun k hk _ => Below.heap_alloc w.drew _ k hk⟩⟩
    · simp only [Array.size_append, List.size_toArray, size_zeroCells, hzs, hlen, ← Nat.add_mul]
      congr 1
      omega
    · simp only [Array.toList_append]
      rw [← hlen]
      exact List.take_left
  rcases hown.2 with ⟨rfl, rfl⟩ | ⟨g, cap, cur, rfl, hbg, hg, hnc, hcm, hcs, htake⟩
  · have hx : xs = [] := List.eq_nil_of_length_eq_zero (by simpa using hown.1)
    subst hx
    by_cases hm : m = 0
    · subst hm
      have hn : news = [] := List.eq_nil_of_length_eq_zero (by simpa using hl)
      subst hn
      refine ⟨.slice none 0 0, w, ?_, World.ownsRow_nil w base e i.size, ⟨rfl, rfl, rfl, Nat.le_refl _, fun _ _ _ => rfl⟩⟩
      rcases hs.kind with ⟨e', hk⟩ | hk <;> simp [Builtin.append_, run_underlying ht, run_underlying hk, sizeOf, typeInfo, hi, hs.len, hs.cells]
    · have hr := run_append_grow_src (P := P) w t tx ty e i z ht hi hz none 0 0 [] (run_firstCells_none w.drew i.size 0 0 0) x m news hs (by omega) (by omega) (growslice_fits (by omega) hbytes)
      have hgr := grown 0 (by omega) (Value.ownBlock (.slice none 0 0))
      simp only [Nat.zero_add, List.nil_append] at hgr hr ⊢
      exact ⟨_, _, hr, hgr.1, hgr.2⟩
  · by_cases hroom : n + m ≤ cap
    · have hfit : n * i.size + news.length ≤ cur.size := by rw [hl, hcs, ← Nat.add_mul]; exact Nat.mul_le_mul_right _ hroom
      have hst := run_storeCells_at P g (n * i.size) e news 0 cur w hg (by simpa using hfit) hs.one
      simp only [Nat.add_zero] at hst
      have hr : (Builtin.append_ #[t, tx] ty #[.slice (some ⟨g, 0, none⟩) n cap, x]).run P w =
          .ok (.slice (some ⟨g, 0, none⟩) (n + m) cap) (w.setRow g (cur.toList.take (n * i.size) ++ news ++ cur.toList.drop (n * i.size + news.length)).toArray) := by
        rcases hs.kind with ⟨e', hk⟩ | hk <;> simp [Builtin.append_, run_underlying ht, run_underlying hk, sizeOf, typeInfo, hi, hs.len, hroom, hs.cells, Addr.add_lit, hst]
      refine ⟨_, _, hr, ⟨hlen, .inr ⟨g, cap, _, rfl, hbg, setRow_heap w g cur _ e _ hg, hroom, hcm, ?_, ?_⟩⟩, ⟨rfl, rfl, rfl, by simp, fun k _ hk => setRow_other w g k _ (fun e => hk (by simp [Value.ownBlock, e]))⟩⟩
      · simp only [List.size_toArray, List.length_append, List.length_take, List.length_drop, Array.length_toList]
        omega
      · rw [htake, ← hlen]
        exact List.take_left
    · have holds : ∀ j u, xs[j]? = some u → w.cell? ((⟨g, 0, none⟩ : Addr).add j) = some u := hown.cells (g := g) rfl
      have hold := run_firstCells_some (P := P) w.drew i.size n ⟨g, 0, none⟩ n cap xs hown.1 (by simpa using holds)
      have hr := run_append_grow_src (P := P) w t tx ty e i z ht hi hz (some ⟨g, 0, none⟩) n cap xs hold x m news hs (by omega) (by omega) (growslice_fits (by omega) hbytes)
      have hgr := grown cap (by omega) (Value.ownBlock (.slice (some ⟨g, 0, none⟩) n cap))
      exact ⟨_, _, hr, hgr.1, hgr.2⟩

/-- The same at the walk's list of operations. -/
theorem wpList_append_own_src {ops : Array Oper} {rest : List Oper} {o : Oper} {a : Act} {Q : Exit → Act → World → Prop} (hgd : o.guard = none) (s x : Operand) (t tx : TypeId)
    (ho : o.op = .call { callee := .builtin .append, args := #[s, x], argTypes := #[t, tx] })
    (base : Nat) (e : TypeId) (z : Value) (size bytes : Nat) (ht : P.underlying t = some (.slice e)) (hinfo : (P.info? e).map (fun i => (i.zero, i.size, i.bytes)) = some (some z, size, bytes))
    (hzs : z.cells.size = size) (hsz : 0 < size)
    (v : Value) (n : Nat) (xs : List Value) (hs : a.eval s = v) (hown : w.ownsRow base e size v n xs)
    (xv : Value) (m : Nat) (news : List Value) (hx : a.eval x = xv) (hsrc : Src P size tx xv m news w)
    (h63 : n + m ≤ maxLen) (hbytes : (n + m) * bytes ≤ 140737488355328) (hbase : base ≤ w.heap.size)
    (h : ∀ v' w', w'.ownsRow base e size v' (n + m) (xs ++ news) → w.grownBy w' v.ownBlock → wpList P ops Q rest (a.put o.dst v') w') : wpList P ops Q (o :: rest) a w := by
  obtain ⟨i, hi, hz, hsize, hby⟩ := info_parts hinfo
  refine wpList_plain hgd fun _ hK => ?_
  obtain ⟨v', w', hr, h2, h3⟩ := run_append_own_src (P := P) w base t tx o.type e i z size bytes ht hi hz hsize hby hzs hsz v n xs hown xv m news hsrc h63 hbytes hbase
  unfold Oper.wp execOp
  simp only [ho, resolve, invoke, builtin, Sem.run_bind, Sem.run_pure, Result.andThen_ok, List.map_toArray, List.map_cons, List.map_nil, hs, hx, hr]
  exact hK _ _ (h v' w' h2 h3)
end

/-- The shape of an owned value. -/
theorem own_form {w : World} {base e size n : Nat} {v : Value} {xs : List Value} (h : w.ownsRow base e size v n xs) : ∃ ao cap, v = .slice ao n cap := by
  rcases h.2 with ⟨e1, e2⟩ | ⟨g, c, cur, e1, _⟩
  · exact ⟨none, 0, by rw [e1, e2]⟩
  · exact ⟨_, c, e1⟩

/-- An append onto an owned row keeps what lies below the base. -/
theorem below_own {w w' w0 : World} {base e size n : Nat} {v : Value} {xs : List Value} (h : w.ownsRow base e size v n xs) (hg : w.grownBy w' v.ownBlock) (hb : Below base w0 w) (hs : base ≤ w.heap.size) : Below base w0 w' :=
  hb.grown hg hs fun k hk => (h.lt k hk).1

/-- Bytes as a string. -/
def S (bs : List UInt8) : ByteArray := ⟨bs.toArray⟩
theorem S_size (bs : List UInt8) : (S bs).size = bs.length := rfl
theorem S_data (bs : List UInt8) : (S bs).data.toList = bs := rfl
theorem S_toList (bs : List UInt8) : (S bs).toList = bs := by rw [ByteArray.toList_eq, S_data]

theorem run_string {P : Program} {w : World} {src dst e : TypeId} (hs : P.underlying src = some (.slice e)) (he : P.underlying e = some (.int .u8)) (hd : P.underlying dst = some .string)
    {ao : Option Addr} {bs : List UInt8} (h : Row w ao bs) (c : Nat) : (convert src dst (.slice ao bs.length c)).run P w = .ok (.string (S bs)) w := by
  by_cases h0 : 0 < bs.length
  · obtain ⟨b, off, rfl, hc⟩ := h h0
    have := run_convert_bytes_arg (P := P) w src e hs he b off bs.length c (bs.map fun b => (b.toNat : Int)) (by simp) (fun i hi => by rw [hc i hi]; simp [List.getD, List.getElem?_eq_getElem hi]) dst hd
    rw [this]
    congr 2
    simp [strOfNums, S, Function.comp_def]
  · have e0 : bs = [] := List.eq_nil_of_length_eq_zero (by omega)
    subst e0
    cases ao with
    | none => exact run_convert_bytes_nil (P := P) w src e hs he 0 c dst hd
    | some a =>
      rw [run_convert_bytes_string w src dst e _ _ c hs he hd]
      have := run_bytesToString (P := P) w a 0 c [] (by have := run_loadCells_list (P := P) w a [] (fun j v hj => by simp at hj); simpa using this)
      exact this

/-- What is told of a slice of integers that came in: it is nil; or it leads to a row of 'cap' cells, the numbers 'zs'. -/
def IsRow (k : IntKind) (w : World) (a : Option Addr) (len cap : Nat) (zs : List Int) : Prop :=
  (a = none ∧ len = 0 ∧ cap = 0 ∧ zs = []) ∨
  ∃ x, a = some x ∧ len ≤ cap ∧ cap ≤ maxLen ∧ zs.length = cap ∧ (∀ i, i < zs.length → w.cell? (x.add i) = some (.int k (zs.getD i 0))) ∧ ∀ n ∈ zs, (Lit.int k n).wf = true

theorem isRow_bytes {w : World} {a : Option Addr} {len cap : Nat} {zs : List Int} (h : IsRow .u8 w a len cap zs) : ∃ bs : List UInt8, bs.length = len ∧ len ≤ cap ∧ cap ≤ 9223372036854775807 ∧ Row w a bs := by
  rcases h with ⟨rfl, rfl, rfl, rfl⟩ | ⟨x, rfl, hl, hm, hz, hcell, hwz⟩
  · exact ⟨[], rfl, Nat.le_refl _, by omega, Row.nil _ _⟩
  · refine ⟨(zs.take len).map fun n => UInt8.ofNat n.toNat, by simp; omega, hl, by unfold maxLen at hm; omega, fun h0 => ?_⟩
    simp only [List.length_map, List.length_take] at h0 ⊢
    obtain ⟨b, off, spot⟩ := x
    have hc0 := hcell 0 (by omega)
    have hspot : spot = none := by simpa [Addr.add] using World.cell?_spot hc0
    subst hspot
    refine ⟨b, off, rfl, fun i hi => ?_⟩
    have hc := hcell i (by omega)
    have hp : (⟨b, off, none⟩ : Addr).add i = ⟨b, off + i, none⟩ := by unfold Addr.add; split <;> simp_all
    rw [hp] at hc
    rw [hc]
    have hiz : i < zs.length := by omega
    have hil : i < len := by omega
    have hw := hwz zs[i] (List.getElem_mem hiz)
    have hb := bounds_u8 hw
    have e1 : zs.getD i 0 = zs[i] := by simp [List.getD, List.getElem?_eq_getElem hiz]
    have e2 : ((zs.take len).map fun n => UInt8.ofNat n.toNat).getD i 0 = UInt8.ofNat zs[i].toNat := by
      simp [List.getD, hil, List.getElem?_eq_getElem hiz]
    rw [e1, e2]
    have : (UInt8.ofNat zs[i].toNat).toNat = zs[i].toNat := by simp [UInt8.toNat_ofNat']; omega
    rw [this]
    congr 2
    omega
end Go.Proofs.YtgbbajeeelgbhaaGreatDoor.Kt

namespace Go.Proofs.YtgbbajeeelgbhaaGreatDoor.Kt
open Go.RowKit
set_option linter.unusedVariables false

/-- One new value of one cell, laid in a block of its own. -/
theorem src_val {P : Program} {tx e' T : TypeId} (hk : P.underlying tx = some (.slice e')) (w : World) (u : Value) (h1 : u.oneCell' = true) :
    Src P 1 tx (.slice (some ⟨w.heap.size, 0, none⟩) 1 1) 1 [u] (w.alloc (.cells #[u] T)) := by
  refine Src.ofSlice _ hk _ _ 1 _ (by simp) (fun j x hj => ?_) (fun x hx => by rw [List.mem_singleton.1 hx]; exact h1)
  have hl : j = 0 := by
    rcases Nat.eq_zero_or_pos j with h | h
    · exact h
    · rw [List.getElem?_eq_none (by simp; omega)] at hj; cases hj
  subst hl
  simp at hj
  subst hj
  exact cell_one_new _ _ _ 0 _ rfl

theorem own_cap {w : World} {base e size n cap : Nat} {ao : Option Addr} {xs : List Value} (h : w.ownsRow base e size (.slice ao n cap) n xs) : cap ≤ 9223372036854775807 := by
  rcases h.2 with ⟨e1, e2⟩ | ⟨g, c, cur, e1, _, _, _, hc, _⟩
  · simp only [Value.slice.injEq] at e1; omega
  · simp only [Value.slice.injEq] at e1; unfold maxLen at hc; omega

/-- Numbers as cells. -/
def I (l : List Nat) : List Value := l.map fun (n : Nat) => Value.int .i64 (n : Int)
theorem I_length (l : List Nat) : (I l).length = l.length := by simp [I]
theorem I_append (a b : List Nat) : I (a ++ b) = I a ++ I b := by simp [I]
/-- Strings as cells. -/
def T (l : List (List UInt8)) : List Value := l.map fun s => Value.string (S s)
theorem T_length (l : List (List UInt8)) : (T l).length = l.length := by simp [T]
theorem T_append (a b : List (List UInt8)) : T (a ++ b) = T a ++ T b := by simp [T]
end Go.Proofs.YtgbbajeeelgbhaaGreatDoor.Kt

namespace Go.Proofs.YtgbbajeeelgbhaaGreatDoor.Ks
open Go.RowKit Kt
set_option linter.unusedVariables false

theorem step_append_own_src {P : Program} {ops : Array Oper} {o : Oper} {a : Act} {w : World} {K : Act → World → Prop} {Q : Exit → Act → World → Prop} {E : Prop}
    (hg : o.guard = none) (s x : Operand) (t tx : TypeId) (hop : o.op = Op.call { callee := Callee.builtin Builtin.append, args := #[s, x], argTypes := #[t, tx] })
    (base : Nat) (e : TypeId) (z : Value) (size bytes : Nat) (ht : P.underlying t = some (.slice e)) (hinfo : (P.info? e).map (fun i => (i.zero, i.size, i.bytes)) = some (some z, size, bytes))
    (hzs : z.cells.size = size) (hsz : 0 < size)
    (v : Value) (n : Nat) (xs : List Value) (hs : a.eval s = v) (hown : w.ownsRow base e size v n xs)
    (xv : Value) (m : Nat) (news : List Value) (hx : a.eval x = xv) (hsrc : Src P size tx xv m news w)
    (h63 : n + m ≤ maxLen) (hbytes : (n + m) * bytes ≤ 140737488355328) (hbase : base ≤ w.heap.size)
    (hK : ∀ v' w', w'.ownsRow base e size v' (n + m) (xs ++ news) → w.grownBy w' v.ownBlock → K (a.put o.dst v') w') :
    if Region.wanted o (yielded ops a.tmps) = true then Oper.wp P o a w K Q else E := by
  obtain ⟨i, hi, hz, hsize, hby⟩ := info_parts hinfo
  have hw : Region.wanted o (yielded ops a.tmps) = true := by simp [Region.wanted, hg]
  rw [if_pos hw]
  obtain ⟨v', w', hr, h2, h3⟩ := run_append_own_src (P := P) w base t tx o.type e i z size bytes ht hi hz hsize hby hzs hsz v n xs hown xv m news hsrc h63 hbytes hbase
  unfold Oper.wp
  simp [execOp, hop, resolve, invoke, builtin, hs, hx, hr, Result.andThen]
  exact hK v' w' h2 h3
/-- A guard: this step is an append of these operands. -/
theorem atApp {P : Program} {ops : Array Oper} {o : Oper} {a : Act} {w : World} {K : Act → World → Prop} {Q : Exit → Act → World → Prop} {E : Prop} (s x : Operand) (t tx : TypeId)
    (hop : o.op = Op.call { callee := Callee.builtin Builtin.append, args := #[s, x], argTypes := #[t, tx] }) (h : if Region.wanted o (yielded ops a.tmps) = true then Oper.wp P o a w K Q else E) :
    if Region.wanted o (yielded ops a.tmps) = true then Oper.wp P o a w K Q else E := h
end Go.Proofs.YtgbbajeeelgbhaaGreatDoor.Ks

namespace Go.Proofs.YtgbbajeeelgbhaaGreatDoor.Gf
open Go.RowKit Kt
set_option linter.unusedVariables false
set_option linter.unusedSectionVars false
set_option linter.unusedSimpArgs false

/-- Of the old blocks only those of F have turned. -/
structure Fr (F : Nat → Prop) (w w' : World) : Prop where
  os : w'.os = w.os
  tape : w'.tape = w.tape
  output : w'.output = w.output
  size : w.heap.size ≤ w'.heap.size
  block : ∀ k, k < w.heap.size → ¬ F k → w'.heap[k]? = w.heap[k]?
theorem Fr.refl (F : Nat → Prop) (w : World) : Fr F w w := ⟨rfl, rfl, rfl, Nat.le_refl _, fun _ _ _ => rfl⟩
theorem Fr.ofBelow {F : Nat → Prop} {w w' : World} (h : Below w.heap.size w w') : Fr F w w' := ⟨h.os, h.tape, h.output, h.size, fun k hk _ => h.block k hk⟩
theorem Fr.mono {F G : Nat → Prop} {w w' : World} (h : Fr F w w') (hi : ∀ k, F k → G k) : Fr G w w' := ⟨h.os, h.tape, h.output, h.size, fun k hk hn => h.block k hk (fun hf => hn (hi k hf))⟩
/-- .. and what is new since w may turn as well. -/
theorem Fr.trans {F G : Nat → Prop} {w w1 w2 : World} (h : Fr F w w1) (k : Fr G w1 w2) (hg : ∀ i, G i → F i ∨ w.heap.size ≤ i) : Fr F w w2 :=
  ⟨k.os.trans h.os, k.tape.trans h.tape, k.output.trans h.output, Nat.le_trans h.size k.size, fun i hi hn =>
    (k.block i (Nat.lt_of_lt_of_le hi h.size) (fun hgi => by rcases hg i hgi with x | x; exact hn x; omega)).trans (h.block i hi hn)⟩
theorem Fr.alloc {F : Nat → Prop} {w w' : World} (h : Fr F w w') (o : Obj) : Fr F w (w'.alloc o) :=
  ⟨h.os, h.tape, h.output, by simp; have := h.size; omega, fun k hk hn => (Below.heap_alloc w' o k (Nat.lt_of_lt_of_le hk h.size)).trans (h.block k hk hn)⟩
theorem Fr.drewN {F : Nat → Prop} {w w' : World} (h : Fr F w w') (n : Nat) : Fr F w (w'.drewN n) := ⟨h.os, h.tape, h.output, h.size, h.block⟩
theorem Fr.setRow {F : Nat → Prop} {w w' : World} (h : Fr F w w') {b : Nat} (hb : F b ∨ w.heap.size ≤ b) (cs : Array Value) : Fr F w (w'.setRow b cs) :=
  ⟨h.os, h.tape, h.output, by rw [setRow_size]; exact h.size, fun k hk hn => (setRow_other w' b k cs (by rintro rfl; rcases hb with x | x; exact hn x; omega)).trans (h.block k hk hn)⟩
theorem Fr.below {F : Nat → Prop} {B : Nat} {w w' : World} (h : Fr F w w') (hF : ∀ k, F k → B ≤ k) (hs : B ≤ w.heap.size) : Below B w w' :=
  ⟨h.os, h.tape, h.output, h.size, fun k hk => h.block k (by omega) (fun hf => by have := hF k hf; omega)⟩
theorem Fr.heap {F : Nat → Prop} {w w' : World} (h : Fr F w w') {k : Nat} (hk : k < w.heap.size) (hn : ¬ F k) : w'.heap[k]? = w.heap[k]? := h.block k hk hn

theorem block_lt {w : World} {b : Nat} {o : Obj} (h : w.heap[b]? = some o) : b < w.heap.size := (Array.getElem?_eq_some_iff.1 h).1
theorem below_drewN {B : Nat} {a w : World} (h : Below B a w) (n : Nat) : Below B a (w.drewN n) := ⟨h.os, h.tape, h.output, h.size, h.block⟩


theorem fr_grown {w w' : World} {v : Option Nat} (h : w.grownBy w' v) : Fr (fun k => v = some k) w w' := by
  obtain ⟨h1, h2, h3, h4, h5⟩ := h
  exact ⟨h1, h2, h3, h4, fun k hk hn => h5 k hk (fun e => hn e.symm)⟩
end Go.Proofs.YtgbbajeeelgbhaaGreatDoor.Gf
