/-
  Cmd, of wire.
-/
import Derived.Test.YtenkgpfeifflnaaGreatWiX
import Derived.Test.YtenkgpfeifflnaaGreatWiF
namespace Go.Proofs.YtenkgpfeifflnaaGreat.Wy
open Go.RowKit Kt Pl Wi Wk Wc Wd We Wf Ww Wx Wv
open At (RowT okT)
set_option linter.unusedVariables false
set_option linter.unusedSimpArgs false
set_option maxRecDepth 20000

theorem wpList_ld {P : Program} {w : World} {ops : Array Oper} {rest : List Oper} {o : Oper} {a : Act} {Q : Exit → Act → World → Prop} {ty : TypeId} {x : Operand} {p : Addr} {v : Value} (hgd : o.guard = none) (ho : o.op = .load ty x) (hx : a.eval x = .pointer (some p)) (h : (loadVar ty p).run P w = .ok v w)
    (hk : wpList P ops Q rest (a.put o.dst v) w) : wpList P ops Q (o :: rest) a w := by
  refine wpList_plain hgd fun _ hK => ?_
  unfold Oper.wp
  rw [run_ld ho hx h]
  exact hK _ _ hk

def dstC : Nat → Nat := (fun i => if i = 0 then 10 else if i = 11 then 21 else if i = 12 then 22 else if i = 21 then 31 else if i = 22 then 32 else if i = 27 then 37 else if i = 28 then 38 else if i = 31 then 41 else if i = 40 then 50 else if i = 41 then 51 else if i = 44 then 54 else if i = 45 then 2 else if i = 46 then 3 else 0)
def consC : Nat → Nat := (fun i => if i = 0 then 12 else if i = 11 then 12 else if i = 12 then 22 else if i = 21 then 22 else if i = 22 then 28 else if i = 27 then 28 else if i = 28 then 31 else if i = 31 then 41 else if i = 40 then 41 else if i = 41 then 44 else if i = 44 then 45 else 999)
def depsC : Nat → List Nat := (fun i => if i = 12 then [0, 11] else if i = 22 then [12, 21] else if i = 28 then [22, 27] else if i = 31 then [28] else if i = 41 then [31, 40] else if i = 44 then [41] else if i = 45 then [44] else [])
def isWC : Nat → Bool := fun i => i == 0 || i == 12 || i == 22 || i == 28 || i == 31 || i == 41 || i == 44 || i == 45
def FC (base : Nat) (c : Cm) : Nat → Value → World → Prop := fun i v w => if i = 0 then Wt w base v ([] : Bs) else if i = 11 then BI [c.kind, c.client, c.num, c.time, c.queue] v w else if i = 12 then Wt w base v (([] : Bs) ++ [c.kind, c.client, c.num, c.time, c.queue].flatMap encN) else if i = 21 then BT [c.group, c.body, c.token, c.attempt] v w else if i = 22 then Wt w base v (([] : Bs) ++ [c.kind, c.client, c.num, c.time, c.queue].flatMap encN ++ [c.group, c.body, c.token, c.attempt].flatMap encText) else if i = 27 then BI [c.max, c.secs] v w else if i = 28 then Wt w base v (([] : Bs) ++ [c.kind, c.client, c.num, c.time, c.queue].flatMap encN ++ [c.group, c.body, c.token, c.attempt].flatMap encText ++ [c.max, c.secs].flatMap encN) else if i = 31 then Wt w base v (([] : Bs) ++ [c.kind, c.client, c.num, c.time, c.queue].flatMap encN ++ [c.group, c.body, c.token, c.attempt].flatMap encText ++ [c.max, c.secs].flatMap encN ++ encRcp c.rc) else if i = 40 then BI [c.lo, c.hi, c.to] v w else if i = 41 then Wt w base v (([] : Bs) ++ [c.kind, c.client, c.num, c.time, c.queue].flatMap encN ++ [c.group, c.body, c.token, c.attempt].flatMap encText ++ [c.max, c.secs].flatMap encN ++ encRcp c.rc ++ [c.lo, c.hi, c.to].flatMap encN) else if i = 44 then Wt w base v (([] : Bs) ++ [c.kind, c.client, c.num, c.time, c.queue].flatMap encN ++ [c.group, c.body, c.token, c.attempt].flatMap encText ++ [c.max, c.secs].flatMap encN ++ encRcp c.rc ++ [c.lo, c.hi, c.to].flatMap encN ++ encList encText c.data) else if i = 45 then Wt w base v (([] : Bs) ++ [c.kind, c.client, c.num, c.time, c.queue].flatMap encN ++ [c.group, c.body, c.token, c.attempt].flatMap encText ++ [c.max, c.secs].flatMap encN ++ encRcp c.rc ++ [c.lo, c.hi, c.to].flatMap encN ++ encList encText c.data) else if i = 46 then v = .int .i64 0 else True

/-- What a command that may be tells of its parts. -/
theorem cm_parts {c : Cm} (h : checkC c = 0) : (∀ x ∈ [c.kind, c.client, c.num, c.time, c.queue], 0 ≤ x ∧ x ≤ 4611686018427387904) ∧ (∀ x ∈ [c.group, c.body, c.token, c.attempt], x.length ≤ 4096) ∧ (∀ x ∈ [c.max, c.secs], 0 ≤ x ∧ x ≤ 4611686018427387904) ∧ (∀ x ∈ [c.lo, c.hi, c.to], 0 ≤ x ∧ x ≤ 4611686018427387904) ∧ rcB c.rc = true ∧ c.rc.g.length ≤ 32 ∧ c.data.length ≤ 1024 ∧ (∀ x ∈ c.data, x.length ≤ 4096) := by
  obtain ⟨hr, hs⟩ := judge_ok h
  simp only [rightC, shortC, Bool.and_eq_true, fitB, decide_eq_true_eq, Bool.or_eq_true, mayB] at hr hs
  obtain ⟨r0, ⟨r1, r2, r3, r4, r5, r6, r7⟩, r8, r9⟩ := hr
  obtain ⟨⟨s0, s1, s2, s3⟩, s4, s5⟩ := hs
  have s5 := dataB_ok s5
  simp only [upToB, Bool.and_eq_true, decide_eq_true_eq] at r0
  have r1 := num_ok r1; have r2 := num_ok r2; have r3 := num_ok r3; have r4 := num_ok r4; have r5 := num_ok r5; have r6 := num_ok r6; have r7 := num_ok r7
  refine ⟨?_, ?_, ?_, ?_, r8, s3, s5.1, s5.2⟩
  · intro x hx; simp at hx; rcases hx with rfl | rfl | rfl | rfl | rfl <;> omega
  · intro x hx; simp at hx; rcases hx with rfl | rfl | rfl | rfl <;> omega
  · intro x hx; simp at hx; rcases hx with rfl | rfl <;> omega
  · intro x hx; simp at hx; rcases hx with rfl | rfl | rfl <;> omega
theorem cm_bytes (c : Cm) : ([] : Bs) ++ [c.kind, c.client, c.num, c.time, c.queue].flatMap encN ++ [c.group, c.body, c.token, c.attempt].flatMap encText ++ [c.max, c.secs].flatMap encN ++ encRcp c.rc ++ [c.lo, c.hi, c.to].flatMap encN ++ encList encText c.data = encCm c := by simp [encCm, encRg]
end Go.Proofs.YtenkgpfeifflnaaGreat.Wy
