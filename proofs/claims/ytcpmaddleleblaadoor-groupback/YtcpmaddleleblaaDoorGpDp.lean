/-
  Plain: a group's dump, and what bytes are read as. Nothing of the program.
-/
import Derived.Test.YtcpmaddleleblaaDoorGpP
import Derived.Test.YtcpmaddleleblaaDoorTexts
import Derived.Test.YtcpmaddleleblaaDoorKit
namespace Go.Proofs.YtcpmaddleleblaaDoor.Gdp
open Gp Pl Kt
set_option linter.unusedVariables false

/-- What is still to be read, and the first error. -/
abbrev Rs := List UInt8 × Nat
def stopS (st : Rs) (e : Nat) : Rs := ([], if st.2 = 0 then e else st.2)
def numS (st : Rs) : Nat × Rs := if (readNum st.1).2.2 ≠ 0 then ((readNum st.1).1, stopS st (readNum st.1).2.2) else ((readNum st.1).1, (st.1.drop (readNum st.1).2.1, st.2))
def textS (st : Rs) : List UInt8 × Rs := if (readText st.1).2.2 ≠ 0 then ((readText st.1).1, stopS st (readText st.1).2.2) else ((readText st.1).1, (st.1.drop (readText st.1).2.1, st.2))
def bindS {α β : Type} (p : Rs → α × Rs) (q : α → Rs → β × Rs) : Rs → β × Rs := fun st => q (p st).1 (p st).2
def msgS : Rs → K × Rs := bindS numS fun a => bindS numS fun b => bindS numS fun c => bindS numS fun d => bindS numS fun e => bindS textS fun s => fun st => (⟨(a : Int), (b : Int), (c : Int), (d : Int), (e : Int), S s⟩, st)
def markS : Rs → M × Rs := bindS textS fun s => bindS numS fun a => bindS numS fun b => fun st => (⟨S s, (a : Int), (b : Int)⟩, st)
def loopS {α : Type} (one : Rs → α × Rs) : Nat → List α → Rs → List α × Rs
  | 0, acc => fun st => (acc, st)
  | n + 1, acc => bindS one fun x => loopS one n (acc ++ [x])
def listS {α : Type} (one : Rs → α × Rs) : Rs → List α × Rs := bindS numS fun c => if 1024 < c then (fun st => ([], stopS st 3)) else loopS one c []
def parseS : Rs → G × Rs := bindS numS fun n => bindS (listS msgS) fun l => bindS (listS markS) fun k => bindS textS fun s => fun st => (⟨(n : Int), l, k, S s⟩, st)
def endS (st : Rs) : Rs := if 0 < st.1.length then stopS st 5 else st
def loadE (bs : List UInt8) : Nat := (endS (parseS (bs, 0)).2).2
def loadG (bs : List UInt8) : G := if loadE bs = 0 then (parseS (bs, 0)).1 else none'

/-- A reader that keeps an error, and reads the same whatever stands behind. -/
structure Good {α : Type} (p : Rs → α × Rs) : Prop where
  mon : ∀ st, st.2 ≠ 0 → (p st).2.2 ≠ 0
  ext : ∀ bs, (p (bs, 0)).2.2 = 0 → ∀ t, p (bs ++ t, 0) = ((p (bs, 0)).1, ((p (bs, 0)).2.1 ++ t, 0))
theorem Good.ret {α : Type} (a : α) : Good (fun st => (a, st)) := ⟨fun st h => h, fun bs h t => rfl⟩
theorem Good.bind {α β : Type} {p : Rs → α × Rs} {q : α → Rs → β × Rs} (hp : Good p) (hq : ∀ a, Good (q a)) : Good (bindS p q) := by
  refine ⟨fun st h => (hq _).mon _ (hp.mon st h), fun bs h t => ?_⟩
  unfold bindS at h ⊢
  have h0 : (p (bs, 0)).2.2 = 0 := by
    rcases Nat.eq_zero_or_pos (p (bs, 0)).2.2 with h1 | h1
    · exact h1
    · exact absurd h ((hq _).mon _ (by omega))
  have e : (p (bs, 0)).2 = ((p (bs, 0)).2.1, 0) := Prod.ext rfl h0
  rw [hp.ext bs h0 t]
  rw [e] at h ⊢
  exact (hq _).ext _ h t
theorem num_ext {bs : List UInt8} {n k : Nat} (h : readNum bs = (n, k, 0)) (t : List UInt8) : readNum (bs ++ t) = (n, k, 0) ∧ k ≤ bs.length := by
  obtain ⟨h1, h2, h3, h4⟩ := readNum_once h
  have e : bs ++ t = enc n ++ (bs.drop k ++ t) := by rw [h4, ← List.append_assoc, List.take_append_drop]
  rw [e, readNum_enc h3]
  refine ⟨?_, h2⟩
  rw [h4, List.length_take]
  simp; omega
theorem good_num : Good numS := by
  refine ⟨fun st h => ?_, fun bs h t => ?_⟩
  · unfold numS
    split
    · unfold stopS; simp [h]
    · exact h
  · unfold numS at h ⊢
    rcases readNum_err bs with ⟨n, k, e⟩ | e | e
    · obtain ⟨e2, hk⟩ := num_ext e t
      rw [e2, e]
      simp only [ne_eq, not_true_eq_false, if_false]
      rw [List.drop_append_of_le_length hk]
    · rw [e] at h; simp [stopS] at h
    · rw [e] at h; simp [stopS] at h
theorem text_ext {bs s : List UInt8} {k : Nat} (h : readText bs = (s, k, 0)) (t : List UInt8) : readText (bs ++ t) = (s, k, 0) ∧ k ≤ bs.length := by
  obtain ⟨h1, h2, h3, h4⟩ := readText_once h
  have e : bs ++ t = encText s ++ (bs.drop k ++ t) := by rw [h4, ← List.append_assoc, List.take_append_drop]
  rw [e, readText_back h3]
  refine ⟨?_, h2⟩
  rw [h4, List.length_take]
  simp; omega
theorem good_text : Good textS := by
  refine ⟨fun st h => ?_, fun bs h t => ?_⟩
  · unfold textS
    split
    · unfold stopS; simp [h]
    · exact h
  · unfold textS at h ⊢
    by_cases he : (readText bs).2.2 = 0
    · have e : readText bs = ((readText bs).1, (readText bs).2.1, 0) := Prod.ext rfl (Prod.ext rfl he)
      obtain ⟨e2, hk⟩ := text_ext e t
      rw [e2, he]
      simp only [ne_eq, not_true_eq_false, if_false]
      rw [List.drop_append_of_le_length hk]
    · rw [if_pos he] at h
      simp [stopS] at h
      exact absurd h he
theorem good_stop {α : Type} (a : α) (e : Nat) (he : e ≠ 0) : Good (fun st : Rs => (a, stopS st e)) := by
  refine ⟨fun st h => ?_, fun bs h t => ?_⟩
  · show (stopS st e).2 ≠ 0
    unfold stopS; simp [h]
  · have h' : (stopS (bs, 0) e).2 = 0 := h
    simp [stopS] at h'; exact absurd h' he
theorem good_msg : Good msgS := good_num.bind fun _ => good_num.bind fun _ => good_num.bind fun _ => good_num.bind fun _ => good_num.bind fun _ => good_text.bind fun _ => Good.ret _
theorem good_mark : Good markS := good_text.bind fun _ => good_num.bind fun _ => good_num.bind fun _ => Good.ret _
theorem good_loop {α : Type} {one : Rs → α × Rs} (h : Good one) : ∀ (n : Nat) (acc : List α), Good (loopS one n acc)
  | 0, acc => Good.ret acc
  | n + 1, acc => h.bind fun x => good_loop h n (acc ++ [x])
theorem good_list {α : Type} {one : Rs → α × Rs} (h : Good one) : Good (listS one) := good_num.bind fun c => by
  split
  · exact good_stop [] 3 (by decide)
  · exact good_loop h c []
theorem good_parse : Good parseS := good_num.bind fun _ => (good_list good_msg).bind fun _ => (good_list good_mark).bind fun _ => good_text.bind fun _ => Good.ret _

/-- Read back as it was. -/
def Bk {α : Type} (p : Rs → α × Rs) (a : α) (bs : List UInt8) : Prop := ∀ t, p (bs ++ t, 0) = (a, (t, 0))
theorem Bk.bind {α β : Type} {p : Rs → α × Rs} {q : α → Rs → β × Rs} {a : α} {b : β} {x y : List UInt8} (hp : Bk p a x) (hq : Bk (q a) b y) : Bk (bindS p q) b (x ++ y) := fun t => by
  unfold bindS
  rw [List.append_assoc, hp (y ++ t)]
  exact hq t
theorem Bk.ret {α : Type} (a : α) : Bk (fun st => (a, st)) a [] := fun t => rfl
theorem bk_num {n : Nat} (h : n ≤ 4611686018427387904) : Bk numS n (enc n) := fun t => by
  unfold numS
  rw [readNum_enc h]
  simp
theorem bk_text {s : List UInt8} (h : s.length ≤ 4096) : Bk textS s (encText s) := fun t => by
  unfold textS
  rw [readText_back h]
  simp
def encK (m : K) : List UInt8 := enc m.seq.toNat ++ (enc m.sent.toNat ++ (enc m.cnt.toNat ++ (enc m.till.toNat ++ (enc m.frm.toNat ++ (encText m.body.data.toList ++ [])))))
def encM (m : M) : List UInt8 := encText m.tok.data.toList ++ (enc m.seq.toNat ++ (enc m.ti.toNat ++ []))
def encG (g : G) : List UInt8 := enc g.next.toNat ++ ((enc g.kept.length ++ g.kept.flatMap encK) ++ ((enc g.marks.length ++ g.marks.flatMap encM) ++ (encText g.att.data.toList ++ [])))
/-- Numbers and texts that are written. -/
def Nn (n : Int) : Prop := 0 ≤ n ∧ n ≤ 4611686018427387904
structure Dk (m : K) : Prop where
  a : Nn m.seq
  b : Nn m.sent
  c : Nn m.cnt
  d : Nn m.till
  e : Nn m.frm
  s : m.body.size ≤ 4096
structure Dm (m : M) : Prop where
  s : m.tok.size ≤ 4096
  a : Nn m.seq
  b : Nn m.ti
structure Dg (g : G) : Prop where
  n : Nn g.next
  k : ∀ m ∈ g.kept, Dk m
  m : ∀ m ∈ g.marks, Dm m
  kl : g.kept.length ≤ 1024
  ml : g.marks.length ≤ 1024
  s : g.att.size ≤ 4096
theorem nn_cast {n : Int} (h : Nn n) : ((n.toNat : Nat) : Int) = n := by unfold Nn at h; omega
theorem nn_le {n : Int} (h : Nn n) : n.toNat ≤ 4611686018427387904 := by unfold Nn at h; omega
theorem S_data (s : ByteArray) : S s.data.toList = s := by cases s; rfl
theorem bk_msg {m : K} (h : Dk m) : Bk msgS m (encK m) := by
  have e : m = ⟨((m.seq.toNat : Nat) : Int), ((m.sent.toNat : Nat) : Int), ((m.cnt.toNat : Nat) : Int), ((m.till.toNat : Nat) : Int), ((m.frm.toNat : Nat) : Int), S m.body.data.toList⟩ := by
    rw [nn_cast h.a, nn_cast h.b, nn_cast h.c, nn_cast h.d, nn_cast h.e, S_data]
  unfold msgS encK
  exact (bk_num (nn_le h.a)).bind ((bk_num (nn_le h.b)).bind ((bk_num (nn_le h.c)).bind ((bk_num (nn_le h.d)).bind ((bk_num (nn_le h.e)).bind ((bk_text (s := m.body.data.toList) (by simpa using h.s)).bind (fun t => by rw [← e]; rfl))))))
theorem bk_mark {m : M} (h : Dm m) : Bk markS m (encM m) := by
  have e : m = ⟨S m.tok.data.toList, ((m.seq.toNat : Nat) : Int), ((m.ti.toNat : Nat) : Int)⟩ := by
    rw [nn_cast h.a, nn_cast h.b, S_data]
  unfold markS encM
  exact (bk_text (s := m.tok.data.toList) (by simpa using h.s)).bind ((bk_num (nn_le h.a)).bind ((bk_num (nn_le h.b)).bind (fun t => by rw [← e]; rfl)))
theorem bk_loop {α : Type} {one : Rs → α × Rs} {e : α → List UInt8} : ∀ (l acc : List α), (∀ x ∈ l, Bk one x (e x)) → Bk (loopS one l.length acc) (acc ++ l) (l.flatMap e)
  | [], acc, h => fun t => by simp [loopS]
  | x :: l, acc, h => by
    have h1 := (h x List.mem_cons_self).bind (q := fun x => loopS one l.length (acc ++ [x])) (bk_loop l (acc ++ [x]) (fun y hy => h y (List.mem_cons_of_mem _ hy)))
    rw [List.append_assoc] at h1
    exact h1
theorem bk_list {α : Type} {one : Rs → α × Rs} {e : α → List UInt8} {l : List α} (hl : l.length ≤ 1024) (h : ∀ x ∈ l, Bk one x (e x)) : Bk (listS one) l (enc l.length ++ l.flatMap e) := by
  have h1 := (bk_num (n := l.length) (by omega)).bind (q := fun c => if 1024 < c then (fun st => (([] : List α), stopS st 3)) else loopS one c []) (b := l) (y := l.flatMap e) (by
    rw [if_neg (by omega)]
    exact bk_loop l [] h)
  exact h1
theorem bk_parse {g : G} (h : Dg g) : Bk parseS g (encG g) := by
  have e : g = ⟨((g.next.toNat : Nat) : Int), g.kept, g.marks, S g.att.data.toList⟩ := by rw [nn_cast h.n, S_data]
  unfold parseS encG
  exact (bk_num (nn_le h.n)).bind ((bk_list (e := encK) h.kl (fun m hm => bk_msg (h.k m hm))).bind ((bk_list (e := encM) h.ml (fun m hm => bk_mark (h.m m hm))).bind ((bk_text (s := g.att.data.toList) (by simpa using h.s)).bind (fun t => by rw [← e]; rfl))))
theorem cut_gen {α : Type} {f : Rs → α × Rs} (hg : Good f) {a : α} {bs : List UInt8} (hb : Bk f a bs) {i : Nat} (hi : i < bs.length) : (endS (f (bs.take i, 0)).2).2 ≠ 0 := by
  intro h0
  have h1 : (f (bs.take i, 0)).2.2 = 0 ∧ (f (bs.take i, 0)).2.1 = [] := by
    unfold endS at h0
    split at h0
    · unfold stopS at h0
      split at h0
      · simp at h0
      · exact absurd h0 (by assumption)
    · rename_i hl
      exact ⟨h0, List.eq_nil_of_length_eq_zero (by omega)⟩
  have h2 := hg.ext (bs.take i) h1.1 (bs.drop i)
  rw [h1.2, List.take_append_drop] at h2
  have hb := hb []
  rw [List.append_nil, h2] at hb
  have h3 : bs.drop i = [] := by
    have := congrArg (fun x => x.2.1) hb
    simpa using this
  have := congrArg List.length h3
  rw [List.length_drop] at this
  simp at this
  omega
theorem load_back {g : G} (h : Dg g) : loadE (encG g) = 0 ∧ loadG (encG g) = g := by
  have hb := bk_parse h []
  rw [List.append_nil] at hb
  have h1 : loadE (encG g) = 0 := by unfold loadE; rw [hb]; rfl
  exact ⟨h1, by unfold loadG; rw [if_pos h1, hb]⟩
theorem load_more {g : G} (h : Dg g) (c : UInt8) (t : List UInt8) : loadE (encG g ++ c :: t) = 5 := by
  unfold loadE
  rw [bk_parse h (c :: t)]
  simp [endS, stopS]
theorem load_cut {g : G} (h : Dg g) {i : Nat} (hi : i < (encG g).length) : loadE ((encG g).take i) ≠ 0 := cut_gen good_parse (bk_parse h) hi
theorem encG_pos (g : G) : 0 < (encG g).length := by
  unfold encG
  rw [List.length_append]
  have := enc_len_pos g.next.toNat
  omega
end Go.Proofs.YtcpmaddleleblaaDoor.Gdp
