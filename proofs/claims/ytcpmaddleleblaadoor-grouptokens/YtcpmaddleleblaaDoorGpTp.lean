/-
  Plain: tokens: what a group remembers, against what was sent, and when. Nothing of the program.
-/
import Derived.Test.YtcpmaddleleblaaDoorGpOp
namespace Go.Proofs.YtcpmaddleleblaaDoor.Gtp
open Gp Gop
set_option linter.unusedVariables false

abbrev Mm := ByteArray → Option Int
def upd' (S : Mm) (t : ByteArray) (v : Int) : Mm := fun s => if s = t then some v else S s
def purged (g : G) : G := ⟨g.next, [], g.marks, g.att⟩
/-- What the group remembers is what was sent anew, less than 300 seconds ago. -/
structure TI (i : Nat) (g : G) (now : Int) (S T : Mm) : Prop where
  j : J i g
  mq : ∀ m ∈ g.marks, S m.tok = some m.seq ∧ T m.tok = some m.ti
  kn : ∀ t a, T t = some a → now - a < 300 → ∃ m ∈ g.marks, m.tok = t
  sa : ∀ t, (S t).isSome = (T t).isSome
  at' : ∀ t a, T t = some a → 0 ≤ a ∧ a ≤ now
theorem TI.start : TI 0 ⟨1, [], [], ⟨#[]⟩⟩ 0 (fun _ => none) (fun _ => none) :=
  ⟨J.fresh, fun m hm => by simp at hm, fun t a h => (by cases h), fun t => rfl, fun t a h => (by cases h)⟩
theorem TI.later {i : Nat} {g : G} {now now2 : Int} {S T : Mm} (h : TI i g now S T) (hn : now ≤ now2) (keep : Int) : TI i (expire g now2 keep) now2 S T ∧ ∀ m ∈ (expire g now2 keep).marks, now2 - m.ti < 300 := by
  refine ⟨⟨h.j.expire now2 keep, fun m hm => h.mq m (List.mem_filter.1 hm).1, fun t a ha hlt => ?_, h.sa, fun t a ha => ?_⟩, fun m hm => ?_⟩
  · obtain ⟨m, hm, ht⟩ := h.kn t a ha (by omega)
    have h2 := (h.mq m hm).2
    rw [ht, ha] at h2
    cases h2
    exact ⟨m, List.mem_filter.2 ⟨hm, by simp; omega⟩, ht⟩
  · have := h.at' t a ha; omega
  · have := (List.mem_filter.1 hm).2; simp at this; omega
theorem J.purge {i : Nat} {g : G} (h : J i g) : J i (purged g) :=
  ⟨List.Pairwise.nil, fun m hm => by simp [purged] at hm, h.nx, fun m hm => by simp [purged] at hm, by simp [purged], h.ml, h.mm⟩
theorem TI.purge {i : Nat} {g : G} {now : Int} {S T : Mm} (h : TI i g now S T) : TI i (purged g) now S T := ⟨J.purge h.j, h.mq, h.kn, h.sa, h.at'⟩
/-- A token that is remembered. -/
theorem TI.old {i : Nat} {g : G} {now : Int} {S T : Mm} (h : TI i g now S T) (hx : ∀ m ∈ g.marks, now - m.ti < 300) {tok : ByteArray} {m : M} (hf : g.marks.find? (fun m => decide (m.tok = tok)) = some m) :
    S tok = some m.seq ∧ T tok = some m.ti ∧ now - m.ti < 300 ∧ (∀ nw b, sendG g nw 0 b tok = g) ∧ sendN g tok = m.seq ∧ sendE g tok = 0 := by
  have hm := List.mem_of_find?_eq_some hf
  have ht : m.tok = tok := by simpa using List.find?_some hf
  have h1 := h.mq m hm
  rw [ht] at h1
  exact ⟨h1.1, h1.2, hx m hm, fun nw b => by unfold sendG; rw [hf], by unfold sendN; rw [hf], by unfold sendE; rw [hf]⟩
/-- A token that is not. -/
theorem TI.new {i : Nat} {g : G} {now : Int} {S T : Mm} (h : TI i g now S T) {tok : ByteArray} (hf : g.marks.find? (fun m => decide (m.tok = tok)) = none) : S tok = none ∨ ∃ a, T tok = some a ∧ (S tok).isSome = true ∧ 300 ≤ now - a := by
  cases hS : S tok with
  | none => exact .inl rfl
  | some q =>
    refine .inr ?_
    have h1 := h.sa tok
    rw [hS] at h1
    obtain ⟨a, ha⟩ := Option.isSome_iff_exists.1 h1.symm
    refine ⟨a, ha, rfl, ?_⟩
    rcases Int.lt_or_le (now - a) 300 with hlt | hle
    · obtain ⟨m, hm, ht⟩ := h.kn tok a ha hlt
      have := List.find?_eq_none.1 hf m hm
      simp at this
      exact absurd ht this
    · exact hle
theorem TI.full {i : Nat} {g : G} {now : Int} {S T : Mm} {tok : ByteArray} (hf : g.marks.find? (fun m => decide (m.tok = tok)) = none) (hq : 12 ≤ g.kept.length ∨ 40 ≤ g.marks.length) : (∀ nw b, sendG g nw 0 b tok = g) ∧ sendN g tok = 0 ∧ sendE g tok = 7 :=
  ⟨fun nw b => by unfold sendG; rw [hf]; exact if_pos hq, by unfold sendN; rw [hf]; exact if_pos hq, by unfold sendE; rw [hf]; exact if_pos hq⟩
theorem TI.sent {i : Nat} {g : G} {now : Int} {S T : Mm} (h : TI i g now S T) (hn : 0 ≤ now ∧ now ≤ 100000) (body : ByteArray) {tok : ByteArray} (hf : g.marks.find? (fun m => decide (m.tok = tok)) = none) (hq : ¬ (12 ≤ g.kept.length ∨ 40 ≤ g.marks.length)) :
    sendG g now 0 body tok = ⟨g.next + 1, g.kept ++ [⟨g.next, now, 0, 0, 0, body⟩], g.marks ++ [⟨tok, g.next, now⟩], g.att⟩ ∧ sendN g tok = g.next ∧ sendE g tok = 0 ∧ TI (i + 1) (sendG g now 0 body tok) now (upd' S tok g.next) (upd' T tok now) := by
  have e : sendG g now 0 body tok = ⟨g.next + 1, g.kept ++ [⟨g.next, now, 0, 0, 0, body⟩], g.marks ++ [⟨tok, g.next, now⟩], g.att⟩ := by unfold sendG; rw [hf]; exact if_neg hq
  refine ⟨e, by unfold sendN; rw [hf]; exact if_neg hq, by unfold sendE; rw [hf]; exact if_neg hq, ?_⟩
  have hj := h.j.send now hn body tok
  rw [e] at hj ⊢
  refine ⟨hj, fun m hm => ?_, fun t a ha hlt => ?_, fun t => ?_, fun t a ha => ?_⟩
  · rcases List.mem_append.1 hm with hm | hm
    · have hne : m.tok ≠ tok := by
        have := List.find?_eq_none.1 hf m hm
        simpa using this
      simp only [upd', hne, if_false]
      exact h.mq m hm
    · rw [List.mem_singleton.1 hm]
      simp [upd']
  · by_cases ht : t = tok
    · exact ⟨_, List.mem_append_right _ (List.mem_singleton_self _), ht.symm⟩
    · simp only [upd', ht, if_false] at ha
      obtain ⟨m, hm, hmt⟩ := h.kn t a ha hlt
      exact ⟨m, List.mem_append_left _ hm, hmt⟩
  · by_cases ht : t = tok
    · simp [upd', ht]
    · simp only [upd', ht, if_false]; exact h.sa t
  · by_cases ht : t = tok
    · simp only [upd', ht, if_true, Option.some.injEq] at ha
      subst ha
      exact ⟨hn.1, Int.le_refl _⟩
    · simp only [upd', ht, if_false] at ha
      exact h.at' t a ha
theorem TI.up {i j : Nat} {g : G} {now : Int} {S T : Mm} (h : TI i g now S T) (hij : i ≤ j) : TI j g now S T := ⟨h.j.up hij, h.mq, h.kn, h.sa, h.at'⟩
end Go.Proofs.YtcpmaddleleblaaDoor.Gtp
