/-
  Plain: a message, a token, a group; what the calls of layer 11 make of them. Nothing of the program.
-/
namespace Go.Proofs.YtcpmaddleleblaaDoor.Gp
set_option linter.unusedVariables false

/-- A message that is kept. -/
structure K where
  seq : Int
  sent : Int
  cnt : Int
  till : Int
  frm : Int
  body : ByteArray
  deriving DecidableEq

/-- A token that is remembered. -/
structure M where
  tok : ByteArray
  seq : Int
  ti : Int
  deriving DecidableEq

/-- A group. -/
structure G where
  next : Int
  kept : List K
  marks : List M
  att : ByteArray
  deriving DecidableEq

/-- Numbers that may be: so small that sums of two stay numbers. -/
def Sm (n : Int) : Prop := 0 ≤ n ∧ n ≤ 1152921504606846976
def OkK (m : K) : Prop := Sm m.seq ∧ Sm m.sent ∧ Sm m.cnt ∧ Sm m.till ∧ Sm m.frm
def OkM (m : M) : Prop := Sm m.seq ∧ Sm m.ti
def OkG (g : G) : Prop := Sm g.next ∧ (∀ m ∈ g.kept, OkK m) ∧ (∀ m ∈ g.marks, OkM m)

def fly (now : Int) (m : K) : Bool := decide (now < m.till)
def flying (g : G) (now : Int) : Bool := g.kept.any (fly now)

def expire (g : G) (now keep : Int) : G :=
  ⟨g.next, g.kept.filter (fun m => !decide (keep ≤ now - m.sent)), g.marks.filter (fun m => !decide (300 ≤ now - m.ti)), g.att⟩

/-- The place of the first that fits, from i on. -/
def idx {α : Type} (p : α → Bool) : List α → Option Nat
  | [] => none
  | x :: t => if p x then some 0 else (idx p t).map (· + 1)

def entered (g : G) (now frm : Int) (body : ByteArray) : G :=
  ⟨g.next + 1, g.kept ++ [⟨g.next, now, 0, 0, frm, body⟩], g.marks, g.att⟩

/-- What Send leaves, with the token that counts. -/
def sendG (g : G) (now frm : Int) (body tok : ByteArray) : G :=
  match g.marks.find? (fun m => decide (m.tok = tok)) with
  | some _ => g
  | none => if 12 ≤ g.kept.length ∨ 40 ≤ g.marks.length then g else
    ⟨g.next + 1, g.kept ++ [⟨g.next, now, 0, 0, frm, body⟩], g.marks ++ [⟨tok, g.next, now⟩], g.att⟩
def sendN (g : G) (tok : ByteArray) : Int :=
  match g.marks.find? (fun m => decide (m.tok = tok)) with
  | some m => m.seq
  | none => if 12 ≤ g.kept.length ∨ 40 ≤ g.marks.length then 0 else g.next
def sendE (g : G) (tok : ByteArray) : Int :=
  match g.marks.find? (fun m => decide (m.tok = tok)) with
  | some m => 0
  | none => if 12 ≤ g.kept.length ∨ 40 ≤ g.marks.length then 7 else 0

def worn (most : Int) (m : K) : Bool := decide (0 < most) && decide (most ≤ m.cnt)
def given (now secs : Int) (m : K) : K := ⟨m.seq, m.sent, m.cnt + 1, now + secs, m.frm, m.body⟩
/-- Does it end at m, with so many got and dead? -/
def ends (mx most room : Int) (got dead : Nat) (m : K) : Bool := decide (mx ≤ (got : Int)) || (worn most m && decide (room ≤ (dead : Int)))

/-- Receive's loop: got, dead, and what is behind. -/
def rcv (now mx secs most room : Int) : List K → List K → List K → List K × List K × List K
  | got, dead, [] => (got, dead, [])
  | got, dead, m :: t =>
    if ends mx most room got.length dead.length m then (got, dead, m :: t)
    else if worn most m then rcv now mx secs most room got (dead ++ [m]) t
    else rcv now mx secs most room (got ++ [given now secs m]) dead t

def rcvG (g : G) (now mx secs most room : Int) : G :=
  if flying g now then g else
    let r := rcv now mx secs most room [] [] g.kept
    ⟨g.next, r.1 ++ r.2.2, g.marks, g.att⟩
def rcvGot (g : G) (now mx secs most room : Int) : List K := if flying g now then [] else (rcv now mx secs most room [] [] g.kept).1
def rcvDead (g : G) (now mx secs most room : Int) : List K := if flying g now then [] else (rcv now mx secs most room [] [] g.kept).2.1

def again (g : G) (now : Int) (mx : Nat) (att : ByteArray) : List K :=
  if att = ByteArray.empty ∨ att ≠ g.att then [] else (g.kept.filter (fly now)).take mx

/-- What of a list is told again. -/
def againL (now : Int) (mx : Nat) (l : List K) : List K := (l.filter (fly now)).take mx
/-- About which message a receipt is: its place; else the error. -/
def about (g : G) (now seq cnt : Int) : Nat × Int :=
  match idx (fun m : K => m.seq == seq) g.kept with
  | none => (0, 8)
  | some i => match g.kept[i]? with
    | none => (0, 8)
    | some m => if m.cnt ≠ cnt then (0, 12) else if fly now m then (i, 0) else (0, 13)

def none' : G := ⟨0, [], [], ByteArray.empty⟩
def delG (g : G) (now seq cnt : Int) : G :=
  if (about g now seq cnt).2 = 0 then ⟨g.next, g.kept.eraseIdx (about g now seq cnt).1, g.marks, g.att⟩
  else if (about g now seq cnt).2 = 8 then g else none'
def delE (g : G) (now seq cnt : Int) : Int := if (about g now seq cnt).2 = 8 then 0 else (about g now seq cnt).2
def setTill (l : List K) (i : Nat) (v : Int) : List K := match l[i]? with
  | some m => l.set i ⟨m.seq, m.sent, m.cnt, v, m.frm, m.body⟩
  | none => l
def chgG (g : G) (now seq cnt secs : Int) : G :=
  if (about g now seq cnt).2 = 0 then ⟨g.next, setTill g.kept (about g now seq cnt).1 (now + secs), g.marks, g.att⟩ else none'
def chgE (g : G) (now seq cnt : Int) : Int := (about g now seq cnt).2

/-! What is known of them. -/
theorem idx_spec {α : Type} (p : α → Bool) (l : List α) : (idx p l = none ∧ ∀ x ∈ l, p x = false) ∨ ∃ i x, idx p l = some i ∧ l[i]? = some x ∧ p x = true ∧ ∀ j y, j < i → l[j]? = some y → p y = false := by
  induction l with
  | nil => exact .inl ⟨rfl, fun x hx => by cases hx⟩
  | cons a t ih =>
    cases h : p a with
    | true => exact .inr ⟨0, a, by simp [idx, h], by simp, h, fun j y hj => by omega⟩
    | false =>
      rcases ih with ⟨e, ha⟩ | ⟨i, x, e, hx, hp, ha⟩
      · refine .inl ⟨by simp [idx, h, e], fun x hx => ?_⟩
        rcases List.mem_cons.1 hx with rfl | hx
        · exact h
        · exact ha x hx
      · refine .inr ⟨i + 1, x, by simp [idx, h, e], by simpa using hx, hp, fun j y hj hy => ?_⟩
        cases j with
        | zero => simp at hy; rw [← hy]; exact h
        | succ j => exact ha j y (by omega) (by simpa using hy)
theorem idx_take {α : Type} (p : α → Bool) (l : List α) (i : Nat) (x : α) (hx : l[i]? = some x) (hp : p x = true) (h : ∀ j y, j < i → l[j]? = some y → p y = false) : idx p l = some i := by
  rcases idx_spec p l with ⟨e, ha⟩ | ⟨k, y, e, hy, hpy, ha⟩
  · have := ha x (List.mem_of_getElem? hx); rw [hp] at this; cases this
  · rcases Nat.lt_trichotomy k i with hk | hk | hk
    · have := h k y hk hy; rw [hpy] at this; cases this
    · rw [e, hk]
    · have := ha i x hk hx; rw [hp] at this; cases this
theorem idx_none {α : Type} (p : α → Bool) (l : List α) (h : ∀ x ∈ l, p x = false) : idx p l = none := by
  rcases idx_spec p l with ⟨e, _⟩ | ⟨k, y, e, hy, hpy, _⟩
  · exact e
  · have := h y (List.mem_of_getElem? hy); rw [hpy] at this; cases this
theorem idx_lt {α : Type} {p : α → Bool} {l : List α} {i : Nat} (h : idx p l = some i) : i < l.length := by
  rcases idx_spec p l with ⟨e, _⟩ | ⟨k, y, e, hy, _⟩
  · rw [h] at e; cases e
  · rw [h] at e; cases e; exact (List.getElem?_eq_some_iff.1 hy).1
theorem idx_any {α : Type} (p : α → Bool) (l : List α) : (idx p l).isSome = l.any p := by
  induction l with
  | nil => rfl
  | cons a t ih => cases h : p a <;> simp [idx, h, ih]
theorem idx_find {α : Type} (p : α → Bool) (l : List α) : (idx p l).bind (fun i => l[i]?) = l.find? p := by
  induction l with
  | nil => rfl
  | cons a t ih =>
    cases h : p a with
    | true => simp [idx, h]
    | false =>
      simp only [idx, h, List.find?]
      rw [← ih]
      cases idx p t <;> simp

def idxI {α : Type} (p : α → Bool) (l : List α) : Int := match idx p l with | none => -1 | some i => (i : Int)
theorem idxI_none {α : Type} (p : α → Bool) (l : List α) (h : ∀ j x, j < l.length → l[j]? = some x → p x = false) : idxI p l = -1 := by
  unfold idxI
  rw [idx_none p l (fun x hx => by obtain ⟨i, hi⟩ := List.getElem?_of_mem hx; exact h i x (List.getElem?_eq_some_iff.1 hi).1 hi)]
theorem idxI_some {α : Type} (p : α → Bool) (l : List α) (i : Nat) (x : α) (hx : l[i]? = some x) (hp : p x = true) (h : ∀ j y, j < i → l[j]? = some y → p y = false) : idxI p l = (i : Int) := by
  unfold idxI
  rw [idx_take p l i x hx hp h]

theorem rcv_stop {now mx secs most room : Int} {gt dd t : List K} {x : K} (h : mx ≤ (gt.length : Int) ∨ (0 < most ∧ most ≤ x.cnt ∧ room ≤ (dd.length : Int))) : rcv now mx secs most room gt dd (x :: t) = (gt, dd, x :: t) := by
  rw [rcv, if_pos]
  unfold ends worn
  rcases h with h | ⟨h1, h2, h3⟩
  · simp [h]
  · simp [h1, h2, h3]
theorem rcv_dead {now mx secs most room : Int} {gt dd t : List K} {x : K} (h0 : ¬ mx ≤ (gt.length : Int)) (h1 : 0 < most) (h2 : most ≤ x.cnt) (h3 : ¬ room ≤ (dd.length : Int)) : rcv now mx secs most room gt dd (x :: t) = rcv now mx secs most room gt (dd ++ [x]) t := by
  rw [rcv, if_neg, if_pos]
  · unfold worn; simp [h1, h2]
  · unfold ends worn; simp only [decide_eq_false h0, decide_eq_false h3]; simp
theorem rcv_give {now mx secs most room : Int} {gt dd t : List K} {x : K} (h0 : ¬ mx ≤ (gt.length : Int)) (h1 : ¬ 0 < most ∨ ¬ most ≤ x.cnt) : rcv now mx secs most room gt dd (x :: t) = rcv now mx secs most room (gt ++ [given now secs x]) dd t := by
  have hw : worn most x = false := by
    unfold worn
    rcases h1 with h | h
    · rw [decide_eq_false h]; rfl
    · rw [decide_eq_false h]; simp
  rw [rcv, if_neg, if_neg]
  · rw [hw]; simp
  · unfold ends; rw [hw, decide_eq_false h0]; simp

theorem againL_snoc (now : Int) (mx : Nat) (l : List K) (j : Nat) (x : K) (hx : l[j]? = some x) : againL now mx (l.take (j + 1)) = if (againL now mx (l.take j)).length < mx ∧ fly now x = true then againL now mx (l.take j) ++ [x] else againL now mx (l.take j) := by
  have e : l.take (j + 1) = l.take j ++ [x] := by rw [List.take_add_one, hx]; rfl
  unfold againL
  rw [e, List.filter_append]
  generalize (l.take j).filter (fly now) = F
  cases h : fly now x with
  | false => simp [h]
  | true =>
    have : List.filter (fly now) [x] = [x] := by simp [h]
    rw [this, List.length_take]
    by_cases hlt : F.length < mx
    · rw [if_pos ⟨by omega, rfl⟩, List.take_of_length_le (by simp; omega), List.take_of_length_le (by omega)]
    · rw [if_neg (by omega), List.take_append_of_le_length (by omega)]

theorem ok_expire {g : G} (h : OkG g) (now keep : Int) : OkG (expire g now keep) :=
  ⟨h.1, fun m hm => h.2.1 m (List.mem_filter.1 hm).1, fun m hm => h.2.2 m (List.mem_filter.1 hm).1⟩
end Go.Proofs.YtcpmaddleleblaaDoor.Gp
