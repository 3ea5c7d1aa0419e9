/-
  A log as plain lists: segments, what a log has, what each call leaves; what holds of every log. Nothing of the program.
-/
import Derived.Test.YthmedpabgblddabGreatDoorSgP
namespace Go.Proofs.YthmedpabgblddabGreatDoor.Sq
open Go.RowKit Kt Cs Cw Cf Cn Cg Ca Dp Sp Pl
set_option linter.unusedVariables false

/-- A segment: the number of its first record, its records, and how many of them are kept (none: not even its first frame). -/
structure Sg where
  first : Nat
  recs : List (List UInt8)
  kept : Option Nat
def bod (s : Sg) : List (List UInt8) := enc s.first :: s.recs
def kn (s : Sg) : Nat := match s.kept with | none => 0 | some k => k + 1
def kb (s : Sg) : List UInt8 := fcat ((bod s).take (kn s))
def rb (s : Sg) : List UInt8 := fcat ((bod s).drop (kn s))
theorem kb_rb (s : Sg) : kb s ++ rb s = fcat (bod s) := (fcat_split _ _).symm
/-- Its disk. -/
def dst : Option (Int × Int) → Sg → St
  | none, s => ⟨kb s, rb s, false⟩
  | some p, s => ⟨kb s, turn ((rb s).take p.1.toNat) p.2, true⟩
def Fits (s : Sg) : Prop := s.first ≤ 1000000 ∧ s.recs.length ≤ 1024 ∧ (∀ r ∈ s.recs, r.length ≤ 400) ∧ kn s ≤ s.recs.length + 1
theorem Fits.bod {s : Sg} (h : Fits s) : ∀ x ∈ bod s, x.length ≤ 400 := by
  intro x hx
  rcases List.mem_cons.1 hx with rfl | hx
  · have := enc_len9 (n := s.first) (by have := h.1; omega); omega
  · exact h.2.2.1 x hx
theorem Fits.bod2 {s : Sg} (h : Fits s) : ∀ x ∈ Sq.bod s, x.length ≤ 65536 := fun x hx => by have := h.bod x hx; omega
theorem fcat_len (l : List (List UInt8)) (h : ∀ x ∈ l, x.length ≤ 400) : (fcat l).length ≤ 412 * l.length := by
  induction l with
  | nil => simp [fcat]
  | cons x l ih =>
    rw [fcat_cons, List.length_append, Sp.frame_pos, List.length_cons]
    have := ih (fun y hy => h y (by simp [hy]))
    have := h x (by simp)
    omega
theorem Fits.len {s : Sg} (h : Fits s) : (fcat (Sq.bod s)).length ≤ 422300 := by
  have h1 := fcat_len _ h.bod
  have h2 := h.2.1
  simp only [Sq.bod, List.length_cons] at h1 ⊢
  omega
theorem Fits.dlen {s : Sg} (h : Fits s) (o : Option (Int × Int)) : (dst o s).kept.length + (dst o s).rest.length ≤ 422300 := by
  have h1 := h.len
  rw [← kb_rb, List.length_append] at h1
  cases o with
  | none => exact h1
  | some p => simp only [dst, turn_length, List.length_take]; omega

/-- What a crash leaves of a segment: how many of its frames, and what lies behind them. -/
theorem left_ex (s : Sg) (h : Fits s) (p : Int × Int) : ∃ (j : Nat) (t : List UInt8), kn s ≤ j ∧ j ≤ s.recs.length + 1 ∧ (dst (some p) s).kept ++ (dst (some p) s).rest = fcat ((bod s).take j) ++ t ∧ (Cp.fd t).1 ≠ 0 := by
  obtain ⟨j, t, hj, he, ht⟩ := torn ((bod s).drop (kn s)) (fun x hx => h.bod2 x (List.mem_of_mem_drop hx)) p.1.toNat p.2
  have h4 := h.2.2.2
  refine ⟨kn s + j, t, by omega, by simp only [List.length_drop, bod, List.length_cons] at hj; omega, ?_, ht⟩
  simp only [dst, rb]
  rw [he, kb, ← List.append_assoc, ← fcat_app, ← List.take_add]
open Classical in
noncomputable def lj (s : Sg) (p : Int × Int) : Nat := if h : Fits s then (left_ex s h p).choose else 0
open Classical in
noncomputable def tl (s : Sg) (p : Int × Int) : List UInt8 := if h : Fits s then (left_ex s h p).choose_spec.choose else []
theorem left_is {s : Sg} (h : Fits s) (p : Int × Int) : kn s ≤ lj s p ∧ lj s p ≤ s.recs.length + 1 ∧ (dst (some p) s).kept ++ (dst (some p) s).rest = fcat ((bod s).take (lj s p)) ++ tl s p ∧ (Cp.fd (tl s p)).1 ≠ 0 := by
  have e1 : lj s p = (left_ex s h p).choose := by unfold lj; rw [dif_pos h]
  have e2 : tl s p = (left_ex s h p).choose_spec.choose := by unfold tl; rw [dif_pos h]
  rw [e1, e2]
  exact (left_ex s h p).choose_spec.choose_spec
/-- What is wholly kept stays whole. -/
theorem tl_nil {s : Sg} (h : Fits s) (p : Int × Int) (hk : s.recs.length + 1 ≤ kn s) : lj s p = s.recs.length + 1 ∧ tl s p = [] := by
  obtain ⟨h1, h2, h3, h4⟩ := left_is h p
  have e : lj s p = s.recs.length + 1 := by omega
  refine ⟨e, ?_⟩
  have hb : (bod s).length = s.recs.length + 1 := by simp [bod]
  have r0 : rb s = [] := by unfold rb; rw [List.drop_eq_nil_of_le (by omega)]; rfl
  have k0 : kb s = fcat (bod s) := by unfold kb; rw [List.take_of_length_le (by omega)]
  simp only [dst, r0, k0] at h3
  rw [e, ← hb, List.take_length] at h3
  rw [turn_none (by simp)] at h3
  have h5 := congrArg List.length h3
  simp only [List.take_nil, List.append_nil, List.length_append] at h5
  exact List.eq_nil_of_length_eq_zero (by omega)

/-- The segment that a restart leaves of one. -/
noncomputable def lft (s : Sg) (p : Int × Int) : Sg := ⟨s.first, s.recs.take (lj s p - 1), some (lj s p - 1)⟩
/-- The segments that a restart leaves. -/
noncomputable def rs (per : Nat) (p : Int × Int) : List Sg → List Sg
  | [] => []
  | s :: ss => if lj s p = 0 then [] else lft s p :: (if tl s p = [] ∧ lj s p = per + 1 then rs per p ss else [])

structure H where
  per : Nat
  segs : List Sg
  safe : Nat
  dn : Option (Int × Int)
def bas : List Sg → Nat
  | [] => 0
  | s :: _ => s.first
def top (l : List Sg) : Nat := match l.getLast? with | none => 0 | some s => s.first + s.recs.length
def all (l : List Sg) : List (List UInt8) := (l.map (·.recs)).flatten
def Chn (per : Nat) : List Sg → Prop
  | [] => True
  | [s] => s.recs.length ≤ per
  | s :: t :: ss => s.recs.length = per ∧ t.first = s.first + per ∧ Chn per (t :: ss)
def KO (safe : Nat) (s : Sg) : Prop := (s.kept = none ∧ safe ≤ s.first ∧ s.recs ≠ []) ∨ (s.first ≤ safe ∧ s.kept = some (min s.recs.length (safe - s.first)))
structure Inv (N : Nat) (h : H) : Prop where
  p1 : 1 ≤ h.per
  p2 : h.per ≤ 1024
  n : h.segs.length ≤ 256
  ch : Chn h.per h.segs
  fits : ∀ s ∈ h.segs, Fits s
  kept : ∀ s ∈ h.segs, KO h.safe s
  lo : bas h.segs ≤ h.safe
  hi : h.safe ≤ top h.segs
  top : top h.segs ≤ N

theorem top_snoc (l : List Sg) (s : Sg) : top (l ++ [s]) = s.first + s.recs.length := by simp [top]
theorem top_cons (s t : Sg) (l : List Sg) : top (s :: t :: l) = top (t :: l) := by simp [top]
theorem all_cons (s : Sg) (l : List Sg) : all (s :: l) = s.recs ++ all l := by simp [all]
theorem all_snoc (l : List Sg) (s : Sg) : all (l ++ [s]) = all l ++ s.recs := by simp [all]
theorem all_app (l m : List Sg) : all (l ++ m) = all l ++ all m := by simp [all]
theorem Chn.tail {per : Nat} : ∀ {s : Sg} {l : List Sg}, Chn per (s :: l) → Chn per l
  | _, [], _ => trivial
  | _, _ :: _, h => h.2.2
theorem top_all {per : Nat} : ∀ {l : List Sg}, Chn per l → l ≠ [] → top l = bas l + (all l).length
  | [], _, h => (h rfl).elim
  | [s], _, _ => by simp [top, bas, all]
  | s :: t :: l, h, _ => by
    rw [top_cons, top_all h.2.2 (by simp), all_cons s, List.length_append, h.1]
    simp only [bas, h.2.1]; omega
theorem top_all0 {per : Nat} {l : List Sg} (h : Chn per l) : top l = bas l + (all l).length := by
  cases l with
  | nil => rfl
  | cons s l => exact top_all h (by simp)
theorem all_len {per : Nat} : ∀ {l : List Sg} {s : Sg}, Chn per (l ++ [s]) → (all (l ++ [s])).length = l.length * per + s.recs.length
  | [], s, h => by simp [all]
  | [t], s, h => by simp [all]; exact h.1
  | t :: u :: l, s, h => by
    have := all_len (l := u :: l) h.2.2
    rw [List.cons_append, all_cons, List.length_append, this, h.1]
    simp only [List.length_cons, Nat.add_mul]; omega
theorem Chn.last {per : Nat} : ∀ {l : List Sg} {s : Sg}, Chn per (l ++ [s]) → s.recs.length ≤ per
  | [], s, h => h
  | [t], s, h => h.2.2
  | t :: u :: l, s, h => Chn.last (l := u :: l) h.2.2
theorem Chn.set {per : Nat} : ∀ {l : List Sg} {s t : Sg}, Chn per (l ++ [s]) → t.first = s.first → t.recs.length ≤ per → Chn per (l ++ [t])
  | [], s, t, h, h1, h2 => h2
  | [u], s, t, h, h1, h2 => ⟨h.1, h1.trans h.2.1, h2⟩
  | u :: v :: l, s, t, h, h1, h2 => ⟨h.1, h.2.1, Chn.set (l := v :: l) h.2.2 h1 h2⟩
theorem Chn.snoc {per : Nat} : ∀ {l : List Sg} {s t : Sg}, Chn per (l ++ [s]) → s.recs.length = per → t.first = s.first + per → t.recs.length ≤ per → Chn per ((l ++ [s]) ++ [t])
  | [], s, t, h, h0, h1, h2 => ⟨h0, h1, h2⟩
  | [u], s, t, h, h0, h1, h2 => ⟨h.1, h.2.1, h0, h1, h2⟩
  | u :: v :: l, s, t, h, h0, h1, h2 => ⟨h.1, h.2.1, Chn.snoc (l := v :: l) h.2.2 h0 h1 h2⟩
theorem Chn.all {per : Nat} : ∀ {l : List Sg}, Chn per l → ∀ s ∈ l, s.recs.length ≤ per
  | [], _, s, h => by cases h
  | [t], h, s, hs => by simp only [List.mem_singleton] at hs; subst hs; exact h
  | t :: u :: l, h, s, hs => by
    rcases List.mem_cons.1 hs with rfl | hs
    · exact Nat.le_of_eq h.1
    · exact Chn.all h.2.2 s hs
theorem Chn.first {per : Nat} : ∀ {l : List Sg}, Chn per l → ∀ s ∈ l, s.first + s.recs.length ≤ Sq.top l
  | [], _, s, h => by cases h
  | [t], h, s, hs => by simp only [List.mem_singleton] at hs; subst hs; exact Nat.le_refl _
  | t :: u :: l, h, s, hs => by
    rw [top_cons]
    rcases List.mem_cons.1 hs with rfl | hs
    · have := Chn.first h.2.2 u (by simp)
      have := h.2.1; have := h.1; omega
    · exact Chn.first h.2.2 s hs
/-- The segment at a place. -/
theorem Chn.at {per : Nat} : ∀ {l : List Sg}, Chn per l → ∀ (i : Nat) (s : Sg), l[i]? = some s → s.first = bas l + i * per ∧ (i + 1 < l.length → s.recs.length = per)
  | [], _, i, s, h => by simp at h
  | [t], h, 0, s, hs => by simp at hs; subst hs; exact ⟨by simp [bas], by simp⟩
  | [t], h, i + 1, s, hs => by simp at hs
  | t :: u :: l, h, 0, s, hs => by simp at hs; subst hs; exact ⟨by simp [bas], fun _ => h.1⟩
  | t :: u :: l, h, i + 1, s, hs => by
    have := Chn.at h.2.2 i s (by simpa using hs)
    refine ⟨?_, fun hi => this.2 (by simpa using hi)⟩
    rw [this.1]
    simp only [bas, h.2.1, Nat.add_mul]; omega
theorem Chn.drop {per : Nat} : ∀ {l : List Sg} (i : Nat), Chn per l → Chn per (l.drop i)
  | l, 0, h => h
  | [], i + 1, h => trivial
  | s :: l, i + 1, h => Chn.drop i h.tail
theorem bas_drop {per : Nat} {l : List Sg} (h : Chn per l) {i : Nat} (hi : i < l.length) : bas (l.drop i) = bas l + i * per := by
  have h1 : l[i]? = some l[i] := List.getElem?_eq_getElem hi
  rw [← (h.at i _ h1).1, ← List.getElem_cons_drop hi]
  rfl
theorem top_drop {l : List Sg} {i : Nat} (hi : i < l.length) : top (l.drop i) = top l := by
  unfold top
  rw [List.getLast?_drop, if_neg (by omega)]
end Go.Proofs.YthmedpabgblddabGreatDoor.Sq
