/-
  The plain mathematics of layer wire: commands and replies, their bytes, what bytes are read as; there and back, cut, and once. No Go text, no program.
-/
import Derived.Test.YtcpmcfagibmboabGreatTexts
namespace Go.Proofs.YtcpmcfagibmboabGreat.Wi
open Pl
set_option linter.unusedVariables false

abbrev Bs := List UInt8
/-- A reader of parts: the part and what is left, or an error. -/
abbrev Rdr (α : Type) := Bs → Except Nat (α × Bs)

section
variable {α β : Type}
def pureR (x : α) : Rdr α := fun bs => .ok (x, bs)
def bindR (p : Rdr α) (f : α → Rdr β) : Rdr β := fun bs => match p bs with
  | .error e => .error e
  | .ok (x, r) => f x r
def ofRead (read : Bs → α × Nat × Nat) : Rdr α := fun bs => if (read bs).2.2 ≠ 0 then .error (read bs).2.2 else .ok ((read bs).1, bs.drop (read bs).2.1)

theorem bindR_ok {p : Rdr α} {f : α → Rdr β} {bs : Bs} {y : β} {r : Bs} (h : bindR p f bs = .ok (y, r)) : ∃ x r1, p bs = .ok (x, r1) ∧ f x r1 = .ok (y, r) := by
  unfold bindR at h
  split at h
  · cases h
  · exact ⟨_, _, ‹_›, h⟩
theorem bindR_of {p : Rdr α} {f : α → Rdr β} {bs r : Bs} {x : α} (h : p bs = .ok (x, r)) : bindR p f bs = f x r := by
  unfold bindR; rw [h]
theorem bindR_err {p : Rdr α} {f : α → Rdr β} {bs : Bs} {e : Nat} (h : p bs = .error e) : bindR p f bs = .error e := by
  unfold bindR; rw [h]

/-- These bytes are the value's: read whatever stands behind; cut anywhere they are short. -/
def Fits (p : Rdr α) (b : Bs) (x : α) : Prop := (∀ rest, p (b ++ rest) = .ok (x, rest)) ∧ ∀ k, k < b.length → p (b.take k) = .error 4

theorem Fits.pure (x : α) : Fits (pureR x) [] x := ⟨fun _ => rfl, fun k hk => by simp at hk⟩
theorem Fits.bind {p : Rdr α} {f : α → Rdr β} {b c : Bs} {x : α} {y : β} (h1 : Fits p b x) (h2 : Fits (f x) c y) : Fits (bindR p f) (b ++ c) y := by
  refine ⟨fun rest => ?_, fun k hk => ?_⟩
  · rw [List.append_assoc, bindR_of (h1.1 _)]; exact h2.1 rest
  · by_cases hb : k < b.length
    · rw [List.take_append_of_le_length (by omega)]; exact bindR_err (h1.2 k hb)
    · rw [List.take_append, List.take_of_length_le (by omega), bindR_of (h1.1 _)]
      rw [List.length_append] at hk
      exact h2.2 _ (by omega)
theorem Fits.last {p : Rdr α} {b : Bs} {x : α} (h : Fits p b x) : p b = .ok (x, []) := by have := h.1 []; rwa [List.append_nil] at this
theorem Fits.map {p : Rdr α} {b : Bs} {x : α} {f : α → β} (h1 : Fits p b x) : Fits (bindR p fun x => pureR (f x)) b (f x) := by
  have := h1.bind (f := fun x => pureR (f x)) (c := []) (Fits.pure (f x))
  rwa [List.append_nil] at this
end

def encN (n : Int) : Bs := enc n.toNat
def pNum : Rdr Int := fun bs => if (readNum bs).2.2 ≠ 0 then .error (readNum bs).2.2 else .ok (((readNum bs).1 : Int), bs.drop (readNum bs).2.1)
def pText : Rdr Bs := ofRead readText
def pData : Rdr (List Bs) := ofRead (readList readText)

theorem fits_num {n : Int} (h0 : 0 ≤ n) (h : n ≤ 4611686018427387904) : Fits pNum (encN n) n := by
  refine ⟨fun rest => ?_, fun k hk => ?_⟩
  · unfold pNum encN
    rw [readNum_enc (by omega)]
    simp only [ne_eq, not_true_eq_false, if_false, List.drop_left]
    rw [show ((n.toNat : Nat) : Int) = n by omega]
  · unfold pNum encN at *
    rw [readNum_cut (by omega) hk]; simp
theorem fits_text {s : Bs} (h : s.length ≤ 4096) : Fits pText (encText s) s := by
  refine ⟨fun rest => ?_, fun k hk => ?_⟩
  · unfold pText ofRead
    rw [readText_back h]; simp
  · unfold pText ofRead
    rw [readText_cut h hk]; simp
theorem fits_data {l : List Bs} (h : l.length ≤ 1024) (ht : ∀ x ∈ l, x.length ≤ 4096) : Fits pData (encList encText l) l := by
  have hb : ∀ x ∈ l, ∀ rest, readText (encText x ++ rest) = (x, (encText x).length, 0) := fun x hx rest => readText_back (ht x hx) rest
  refine ⟨fun rest => ?_, fun k hk => ?_⟩
  · unfold pData ofRead
    rw [readList_back h hb]; simp
  · unfold pData ofRead
    rw [readList_cut h hb (fun x hx k hk => by rw [readText_cut (ht x hx) hk]) hk]; simp

theorem num_once {bs r : Bs} {n : Int} (h : pNum bs = .ok (n, r)) : 0 ≤ n ∧ n ≤ 4611686018427387904 ∧ bs = encN n ++ r ∧ r.length < bs.length := by
  unfold pNum at h
  rcases readNum_err bs with ⟨m, k, hr⟩ | hr | hr <;> rw [hr] at h
  · simp only [ne_eq, not_true_eq_false, if_false, Except.ok.injEq, Prod.mk.injEq] at h
    obtain ⟨rfl, rfl⟩ := h
    obtain ⟨a1, a2, a3, a4⟩ := readNum_once hr
    refine ⟨by omega, by omega, ?_, by rw [List.length_drop]; omega⟩
    unfold encN
    rw [Int.toNat_natCast, a4, List.take_append_drop]
  · simp at h
  · simp at h
theorem text_once {bs r s : Bs} (h : pText bs = .ok (s, r)) : s.length ≤ 4096 ∧ bs = encText s ++ r ∧ r.length < bs.length := by
  unfold pText ofRead at h
  split at h
  · cases h
  · rename_i h0
    have h0 : (readText bs).2.2 = 0 := by simpa using h0
    simp only [Except.ok.injEq, Prod.mk.injEq] at h
    obtain ⟨h1, h2⟩ := h
    obtain ⟨a1, a2, a3, a4⟩ := readText_once (bs := bs) (s := s) (k := (readText bs).2.1) (by rw [← h1, ← h0])
    refine ⟨a3, ?_, by rw [← h2, List.length_drop]; omega⟩
    rw [a4, ← h2, List.take_append_drop]
theorem data_once {bs r : Bs} {l : List Bs} (h : pData bs = .ok (l, r)) : l.length ≤ 1024 ∧ (∀ x ∈ l, x.length ≤ 4096) ∧ bs = encList encText l ++ r := by
  unfold pData ofRead at h
  split at h
  · cases h
  · rename_i h0
    have h0 : (readList readText bs).2.2 = 0 := by simpa using h0
    simp only [Except.ok.injEq, Prod.mk.injEq] at h
    obtain ⟨h1, h2⟩ := h
    have hr : readList readText bs = (l, (readList readText bs).2.1, 0) := by rw [← h1, ← h0]
    obtain ⟨a1, a2, a3⟩ := readList_once (e := encText) (fun bs x k hx => ⟨(readText_once hx).2.1, (readText_once hx).2.2.2⟩) hr
    refine ⟨a2, readList_items (Q := fun x => x.length ≤ 4096) (fun bs x k hx => (readText_once hx).2.2.1) hr, ?_⟩
    rw [a3, ← h2, List.take_append_drop]

/- Receipts, commands, deliveries, replies. -/
structure Rcp where
  q : Int
  g : Bs
  s : Int
  c : Int
structure Cm where
  kind : Int
  client : Int
  num : Int
  time : Int
  queue : Int
  group : Bs
  body : Bs
  token : Bs
  attempt : Bs
  max : Int
  secs : Int
  rc : Rcp
  lo : Int
  hi : Int
  to : Int
  data : List Bs
structure Gt where
  rc : Rcp
  body : Bs
  sent : Int
structure Rp where
  err : Int
  seq : Int
  n : Int
  got : List Gt
  data : List Bs
  about : List (Int × Int)

def Rcp.none : Rcp := ⟨0, [], 0, 0⟩
def Cm.none : Cm := ⟨0, 0, 0, 0, 0, [], [], [], [], 0, 0, Rcp.none, 0, 0, 0, []⟩
def Rp.none : Rp := ⟨0, 0, 0, [], [], []⟩

def encRcp (r : Rcp) : Bs := encN r.q ++ (encText r.g ++ (encN r.s ++ encN r.c))
def pRcp : Rdr Rcp := bindR pNum fun q => bindR pText fun g => bindR pNum fun s => bindR pNum fun c => pureR ⟨q, g, s, c⟩
def encGt (g : Gt) : Bs := encRcp g.rc ++ (encText g.body ++ encN g.sent)
def pGt : Rdr Gt := bindR pRcp fun r => bindR pText fun b => bindR pNum fun s => pureR ⟨r, b, s⟩
def encRg (r : Int × Int) : Bs := encN r.1 ++ encN r.2
def pRg : Rdr (Int × Int) := bindR pNum fun a => bindR pNum fun b => pureR (a, b)

section
variable {α : Type}
def rep (one : Rdr α) : Nat → List α → Rdr (List α)
  | 0, acc => pureR acc
  | n + 1, acc => bindR one fun x => rep one n (acc ++ [x])
def pMany (one : Rdr α) : Rdr (List α) := bindR pNum fun n => rep one n.toNat []
def encMany (e : α → Bs) (l : List α) : Bs := encN l.length ++ l.flatMap e

theorem fits_rep {one : Rdr α} {e : α → Bs} : ∀ (l acc : List α), (∀ x ∈ l, Fits one (e x) x) → Fits (rep one l.length acc) (l.flatMap e) (acc ++ l)
  | [], acc, _ => by rw [List.append_nil]; exact Fits.pure acc
  | x :: l, acc, h => by
    have h1 := fits_rep l (acc ++ [x]) (fun y hy => h y (by simp [hy]))
    rw [List.append_assoc] at h1
    exact (h x (by simp)).bind (f := fun x => rep one l.length (acc ++ [x])) h1
theorem fits_many {one : Rdr α} {e : α → Bs} {l : List α} (hl : l.length ≤ 1024) (h : ∀ x ∈ l, Fits one (e x) x) : Fits (pMany one) (encMany e l) l := by
  have h1 := fits_rep l [] h
  rw [List.nil_append] at h1
  refine (fits_num (n := (l.length : Int)) (by omega) (by omega)).bind (f := fun n : Int => rep one n.toNat []) ?_
  rw [Int.toNat_natCast]
  exact h1

theorem rep_once {one : Rdr α} {e : α → Bs} {Q : α → Prop} (h1 : ∀ bs x r, one bs = .ok (x, r) → Q x ∧ bs = e x ++ r) : ∀ (n : Nat) (acc : List α) (bs : Bs) (l : List α) (r : Bs),
    rep one n acc bs = .ok (l, r) → ∃ l', l = acc ++ l' ∧ l'.length = n ∧ (∀ x ∈ l', Q x) ∧ bs = l'.flatMap e ++ r
  | 0, acc, bs, l, r, h => by
    simp only [rep, pureR, Except.ok.injEq, Prod.mk.injEq] at h
    obtain ⟨rfl, rfl⟩ := h
    exact ⟨[], by simp, rfl, by simp, by simp⟩
  | n + 1, acc, bs, l, r, h => by
    rw [rep] at h
    obtain ⟨x, r1, hx, hr⟩ := bindR_ok h
    obtain ⟨q, rfl⟩ := h1 _ _ _ hx
    obtain ⟨l', rfl, a2, a3, rfl⟩ := rep_once h1 n _ _ _ _ hr
    refine ⟨x :: l', by simp, by simp [a2], ?_, by simp⟩
    intro y hy
    rcases List.mem_cons.1 hy with rfl | hy
    · exact q
    · exact a3 y hy
theorem many_once {one : Rdr α} {e : α → Bs} {Q : α → Prop} (h1 : ∀ bs x r, one bs = .ok (x, r) → Q x ∧ bs = e x ++ r) {bs r : Bs} {l : List α} (h : pMany one bs = .ok (l, r)) :
    (∀ x ∈ l, Q x) ∧ bs = encMany e l ++ r := by
  obtain ⟨n, r1, hn, hr⟩ := bindR_ok h
  obtain ⟨b1, b2, b3, _⟩ := num_once hn
  obtain ⟨l', rfl, a2, a3, rfl⟩ := rep_once h1 _ _ _ _ _ hr
  refine ⟨by simpa using a3, ?_⟩
  unfold encMany
  rw [b3, a2, show ((n.toNat : Nat) : Int) = n by omega, List.append_assoc]
end

def encCm (c : Cm) : Bs := encN c.kind ++ (encN c.client ++ (encN c.num ++ (encN c.time ++ (encN c.queue ++ (encText c.group ++ (encText c.body ++ (encText c.token ++ (encText c.attempt ++
  (encN c.max ++ (encN c.secs ++ (encRcp c.rc ++ (encRg (c.lo, c.hi) ++ (encN c.to ++ encList encText c.data)))))))))))))
def pCm : Rdr Cm := bindR pNum fun kind => bindR pNum fun client => bindR pNum fun num => bindR pNum fun time => bindR pNum fun queue =>
  bindR pText fun group => bindR pText fun body => bindR pText fun token => bindR pText fun attempt => bindR pNum fun max => bindR pNum fun secs =>
  bindR pRcp fun rc => bindR pRg fun rg => bindR pNum fun to => bindR pData fun data => pureR ⟨kind, client, num, time, queue, group, body, token, attempt, max, secs, rc, rg.1, rg.2, to, data⟩
def encRp (r : Rp) : Bs := encN r.err ++ (encN r.seq ++ (encN r.n ++ (encMany encGt r.got ++ (encList encText r.data ++ encMany encRg r.about))))
def pRp : Rdr Rp := bindR pNum fun err => bindR pNum fun seq => bindR pNum fun n => bindR (pMany pGt) fun got => bindR pData fun data => bindR (pMany pRg) fun about => pureR ⟨err, seq, n, got, data, about⟩

/- What may be. -/
def upToB (lim n : Int) : Bool := decide (0 ≤ n) && decide (n ≤ lim)
def fitB (lim : Nat) (s : Bs) : Bool := decide (s.length ≤ lim)
def mayB (lo hi : Int) : Bool := decide (0 ≤ lo) && (decide (lo < hi) && decide (hi ≤ 65536))
def numB (n : Int) : Bool := upToB 1099511627776 n
def rcB (r : Rcp) : Bool := numB r.q && (numB r.s && numB r.c)
def dataB (l : List Bs) : Bool := decide (l.length ≤ 1024) && l.all (fitB 4096)
def rightC (c : Cm) : Bool := upToB 10 c.kind && ((numB c.client && (numB c.num && (numB c.time && (numB c.queue && (numB c.max && (numB c.secs && numB c.to)))))) && (rcB c.rc && ((decide (c.lo = 0) && decide (c.hi = 0)) || mayB c.lo c.hi)))
def shortC (c : Cm) : Bool := (fitB 32 c.group && (fitB 32 c.token && (fitB 32 c.attempt && fitB 32 c.rc.g))) && (fitB 128 c.body && dataB c.data)
def rightG (g : Gt) : Bool := rcB g.rc && numB g.sent
def shortG (g : Gt) : Bool := fitB 32 g.rc.g && fitB 128 g.body
def rightR (r : Rp) : Bool := upToB 255 r.err && ((numB r.seq && numB r.n) && (r.got.all rightG && r.about.all fun x => mayB x.1 x.2))
def shortR (r : Rp) : Bool := (decide (r.got.length ≤ 1024) && r.got.all shortG) && (dataB r.data && decide (r.about.length ≤ 1024))
def judge (right short : Bool) : Nat := if right then (if short then 0 else 3) else 2
def checkC (c : Cm) : Nat := judge (rightC c) (shortC c)
def checkR (r : Rp) : Nat := judge (rightR r) (shortR r)

theorem judge_ok {a b : Bool} (h : judge a b = 0) : a = true ∧ b = true := by cases a <;> cases b <;> simp_all [judge]
theorem num_ok {n : Int} (h : numB n = true) : 0 ≤ n ∧ n ≤ 1099511627776 := by simpa [numB, upToB] using h

theorem fits_rcp {r : Rcp} (h : rcB r = true) (hg : r.g.length ≤ 4096) : Fits pRcp (encRcp r) r := by
  simp only [rcB, Bool.and_eq_true] at h
  obtain ⟨h1, h2, h3⟩ := h
  have h1 := num_ok h1
  have h2 := num_ok h2
  have h3 := num_ok h3
  exact (fits_num h1.1 (by omega)).bind (f := fun q => bindR pText fun g => bindR pNum fun s => bindR pNum fun c => pureR (Rcp.mk q g s c))
    ((fits_text hg).bind (f := fun g => bindR pNum fun s => bindR pNum fun c => pureR (Rcp.mk r.q g s c))
      ((fits_num h2.1 (by omega)).bind (f := fun s => bindR pNum fun c => pureR (Rcp.mk r.q r.g s c)) ((fits_num h3.1 (by omega)).map (f := fun c => Rcp.mk r.q r.g r.s c))))
theorem fits_gt {g : Gt} (h : rightG g = true) (hs : shortG g = true) : Fits pGt (encGt g) g := by
  simp only [rightG, shortG, Bool.and_eq_true, fitB, decide_eq_true_eq] at h hs
  have h2 := num_ok h.2
  exact (fits_rcp h.1 (by omega)).bind (f := fun r => bindR pText fun b => bindR pNum fun s => pureR (Gt.mk r b s))
    ((fits_text (s := g.body) (by omega)).bind (f := fun b => bindR pNum fun s => pureR (Gt.mk g.rc b s)) ((fits_num h2.1 (by omega)).map (f := fun s => Gt.mk g.rc g.body s)))
theorem fits_rg {a b : Int} (h0 : 0 ≤ a) (h1 : a ≤ 65536) (h2 : 0 ≤ b) (h3 : b ≤ 65536) : Fits pRg (encRg (a, b)) (a, b) :=
  (fits_num h0 (by omega)).bind (f := fun a => bindR pNum fun b => pureR (a, b)) ((fits_num h2 (by omega)).map (f := fun b => (a, b)))

theorem dataB_ok {l : List Bs} (h : dataB l = true) : l.length ≤ 1024 ∧ ∀ x ∈ l, x.length ≤ 4096 := by
  simp only [dataB, Bool.and_eq_true, decide_eq_true_eq, List.all_eq_true, fitB] at h
  exact h

set_option maxHeartbeats 800000 in
theorem fits_cm {c : Cm} (h : checkC c = 0) : Fits pCm (encCm c) c := by
  obtain ⟨hr, hs⟩ := judge_ok h
  simp only [rightC, shortC, Bool.and_eq_true, fitB, decide_eq_true_eq, Bool.or_eq_true, mayB] at hr hs
  obtain ⟨r0, ⟨r1, r2, r3, r4, r5, r6, r7⟩, r8, r9⟩ := hr
  obtain ⟨⟨s0, s1, s2, s3⟩, s4, s5⟩ := hs
  have s5 := dataB_ok s5
  simp only [upToB, Bool.and_eq_true, decide_eq_true_eq] at r0
  have r1 := num_ok r1; have r2 := num_ok r2; have r3 := num_ok r3; have r4 := num_ok r4; have r5 := num_ok r5; have r6 := num_ok r6; have r7 := num_ok r7
  obtain ⟨kind, client, num, time, queue, group, body, token, attempt, max, secs, rc, lo, hi, to, data⟩ := c
  simp only at *
  unfold pCm encCm
  dsimp only
  refine (fits_num (by omega) (by omega)).bind ?_
  refine (fits_num (by omega) (by omega)).bind ?_
  refine (fits_num (by omega) (by omega)).bind ?_
  refine (fits_num (by omega) (by omega)).bind ?_
  refine (fits_num (by omega) (by omega)).bind ?_
  refine (fits_text (by omega)).bind ?_
  refine (fits_text (by omega)).bind ?_
  refine (fits_text (by omega)).bind ?_
  refine (fits_text (by omega)).bind ?_
  refine (fits_num (by omega) (by omega)).bind ?_
  refine (fits_num (by omega) (by omega)).bind ?_
  refine (fits_rcp r8 (by omega)).bind ?_
  refine (fits_rg (by omega) (by omega) (by omega) (by omega)).bind ?_
  refine (fits_num (by omega) (by omega)).bind ?_
  exact (fits_data s5.1 s5.2).map (f := fun data => Cm.mk kind client num time queue group body token attempt max secs rc lo hi to data)

set_option maxHeartbeats 800000 in
theorem fits_rp {r : Rp} (h : checkR r = 0) : Fits pRp (encRp r) r := by
  obtain ⟨hr, hs⟩ := judge_ok h
  simp only [rightR, shortR, Bool.and_eq_true, decide_eq_true_eq, List.all_eq_true, mayB] at hr hs
  obtain ⟨r0, ⟨r1, r2⟩, r3, r4⟩ := hr
  obtain ⟨⟨s0, s1⟩, s2, s3⟩ := hs
  have s2 := dataB_ok s2
  simp only [upToB, Bool.and_eq_true, decide_eq_true_eq] at r0
  have r1 := num_ok r1; have r2 := num_ok r2
  obtain ⟨err, seq, n, got, data, about⟩ := r
  simp only at *
  unfold pRp encRp
  dsimp only
  refine (fits_num (by omega) (by omega)).bind ?_
  refine (fits_num (by omega) (by omega)).bind ?_
  refine (fits_num (by omega) (by omega)).bind ?_
  refine (fits_many s0 (fun g hg => fits_gt (r3 g hg) (s1 g hg))).bind ?_
  refine (fits_data s2.1 s2.2).bind ?_
  exact (fits_many s3 (fun x hx => by have := r4 x hx; exact fits_rg (by omega) (by omega) (by omega) (by omega))).map (f := fun about => Rp.mk err seq n got data about)

theorem rcp_once {bs r : Bs} {x : Rcp} (h : pRcp bs = .ok (x, r)) : bs = encRcp x ++ r := by
  obtain ⟨q, r1, h1, h⟩ := bindR_ok h
  obtain ⟨g, r2, h2, h⟩ := bindR_ok h
  obtain ⟨s, r3, h3, h⟩ := bindR_ok h
  obtain ⟨c, r4, h4, h⟩ := bindR_ok h
  simp only [pureR, Except.ok.injEq, Prod.mk.injEq] at h
  obtain ⟨rfl, rfl⟩ := h
  obtain ⟨-, -, rfl, -⟩ := num_once h1
  obtain ⟨-, rfl, -⟩ := text_once h2
  obtain ⟨-, -, rfl, -⟩ := num_once h3
  obtain ⟨-, -, rfl, -⟩ := num_once h4
  simp [encRcp]
theorem gt_once {bs r : Bs} {x : Gt} (h : pGt bs = .ok (x, r)) : bs = encGt x ++ r := by
  obtain ⟨q, r1, h1, h⟩ := bindR_ok h
  obtain ⟨g, r2, h2, h⟩ := bindR_ok h
  obtain ⟨s, r3, h3, h⟩ := bindR_ok h
  simp only [pureR, Except.ok.injEq, Prod.mk.injEq] at h
  obtain ⟨rfl, rfl⟩ := h
  obtain rfl := rcp_once h1
  obtain ⟨-, rfl, -⟩ := text_once h2
  obtain ⟨-, -, rfl, -⟩ := num_once h3
  simp [encGt]
theorem rg_once {bs r : Bs} {x : Int × Int} (h : pRg bs = .ok (x, r)) : bs = encRg x ++ r := by
  obtain ⟨q, r1, h1, h⟩ := bindR_ok h
  obtain ⟨g, r2, h2, h⟩ := bindR_ok h
  simp only [pureR, Except.ok.injEq, Prod.mk.injEq] at h
  obtain ⟨rfl, rfl⟩ := h
  obtain ⟨-, -, rfl, -⟩ := num_once h1
  obtain ⟨-, -, rfl, -⟩ := num_once h2
  simp [encRg]

theorem cm_once {bs r : Bs} {x : Cm} (h : pCm bs = .ok (x, r)) : bs = encCm x ++ r := by
  obtain ⟨a1, r1, h1, h⟩ := bindR_ok h
  obtain ⟨a2, r2, h2, h⟩ := bindR_ok h
  obtain ⟨a3, r3, h3, h⟩ := bindR_ok h
  obtain ⟨a4, r4, h4, h⟩ := bindR_ok h
  obtain ⟨a5, r5, h5, h⟩ := bindR_ok h
  obtain ⟨a6, r6, h6, h⟩ := bindR_ok h
  obtain ⟨a7, r7, h7, h⟩ := bindR_ok h
  obtain ⟨a8, r8, h8, h⟩ := bindR_ok h
  obtain ⟨a9, r9, h9, h⟩ := bindR_ok h
  obtain ⟨a10, r10, h10, h⟩ := bindR_ok h
  obtain ⟨a11, r11, h11, h⟩ := bindR_ok h
  obtain ⟨a12, r12, h12, h⟩ := bindR_ok h
  obtain ⟨a13, r13, h13, h⟩ := bindR_ok h
  obtain ⟨a14, r14, h14, h⟩ := bindR_ok h
  obtain ⟨a15, r15, h15, h⟩ := bindR_ok h
  simp only [pureR, Except.ok.injEq, Prod.mk.injEq] at h
  obtain ⟨rfl, rfl⟩ := h
  obtain ⟨-, -, rfl, -⟩ := num_once h1
  obtain ⟨-, -, rfl, -⟩ := num_once h2
  obtain ⟨-, -, rfl, -⟩ := num_once h3
  obtain ⟨-, -, rfl, -⟩ := num_once h4
  obtain ⟨-, -, rfl, -⟩ := num_once h5
  obtain ⟨-, rfl, -⟩ := text_once h6
  obtain ⟨-, rfl, -⟩ := text_once h7
  obtain ⟨-, rfl, -⟩ := text_once h8
  obtain ⟨-, rfl, -⟩ := text_once h9
  obtain ⟨-, -, rfl, -⟩ := num_once h10
  obtain ⟨-, -, rfl, -⟩ := num_once h11
  obtain rfl := rcp_once h12
  obtain rfl := rg_once h13
  obtain ⟨-, -, rfl, -⟩ := num_once h14
  obtain ⟨-, -, rfl⟩ := data_once h15
  simp [encCm]
theorem rp_once {bs r : Bs} {x : Rp} (h : pRp bs = .ok (x, r)) : bs = encRp x ++ r := by
  obtain ⟨a1, r1, h1, h⟩ := bindR_ok h
  obtain ⟨a2, r2, h2, h⟩ := bindR_ok h
  obtain ⟨a3, r3, h3, h⟩ := bindR_ok h
  obtain ⟨a4, r4, h4, h⟩ := bindR_ok h
  obtain ⟨a5, r5, h5, h⟩ := bindR_ok h
  obtain ⟨a6, r6, h6, h⟩ := bindR_ok h
  simp only [pureR, Except.ok.injEq, Prod.mk.injEq] at h
  obtain ⟨rfl, rfl⟩ := h
  obtain ⟨-, -, rfl, -⟩ := num_once h1
  obtain ⟨-, -, rfl, -⟩ := num_once h2
  obtain ⟨-, -, rfl, -⟩ := num_once h3
  obtain ⟨-, rfl⟩ := many_once (Q := fun _ => True) (fun bs x r hx => ⟨trivial, gt_once hx⟩) h4
  obtain ⟨-, -, rfl⟩ := data_once h5
  obtain ⟨-, rfl⟩ := many_once (Q := fun _ => True) (fun bs x r hx => ⟨trivial, rg_once hx⟩) h6
  simp [encRp]

/- The whole. -/
def whole {α : Type} (p : Rdr α) (check : α → Nat) (bs : Bs) : Except Nat α := match p bs with
  | .error e => .error e
  | .ok (x, r) => if 0 < r.length then .error 5 else if check x ≠ 0 then .error (check x) else .ok x
def readCm : Bs → Except Nat Cm := whole pCm checkC
def readRp : Bs → Except Nat Rp := whole pRp checkR

theorem whole_fits {α : Type} {p : Rdr α} {check : α → Nat} {b : Bs} {x : α} (h : Fits p b x) (hc : check x = 0) :
    whole p check b = .ok x ∧ (∀ k, k < b.length → whole p check (b.take k) = .error 4) ∧ ∀ t, whole p check (b ++ [t]) = .error 5 := by
  refine ⟨?_, fun k hk => ?_, fun t => ?_⟩
  · unfold whole; rw [h.last]; simp [hc]
  · unfold whole; rw [h.2 k hk]
  · unfold whole; rw [h.1 [t]]; simp
theorem whole_once {α : Type} {p : Rdr α} {check : α → Nat} {e : α → Bs} (ho : ∀ bs x r, p bs = .ok (x, r) → bs = e x ++ r) {bs : Bs} {x : α} (h : whole p check bs = .ok x) : bs = e x ∧ check x = 0 := by
  unfold whole at h
  split at h
  · cases h
  · rename_i y r hp
    split at h
    · cases h
    · split at h
      · cases h
      · rename_i h1 h2
        simp only [Except.ok.injEq] at h
        subst h
        have := ho _ _ _ hp
        have hr : r = [] := List.eq_nil_of_length_eq_zero (by omega)
        rw [hr, List.append_nil] at this
        exact ⟨this, by simpa using h2⟩
end Go.Proofs.YtcpmcfagibmboabGreat.Wi
