/-
  A disk as plain lists: what is kept, what is not, whether it is down; what each call answers and leaves. Nothing of the program.
-/
namespace Go.Proofs.YtenkgpfeifflnaaGreat.Dp
set_option linter.unusedVariables false

structure St where
  kept : List UInt8
  rest : List UInt8
  down : Bool

/-- A byte with one bit turned. -/
def tb (x : UInt8) (k : Nat) : UInt8 := x ^^^ UInt8.ofNat (2 ^ k)
/-- One bit turned, if there is such a bit. -/
def turn (l : List UInt8) (f : Int) : List UInt8 :=
  if 0 ≤ f ∧ f.toNat / 8 < l.length then l.set (f.toNat / 8) (tb (l.getD (f.toNat / 8) 0) (f.toNat % 8)) else l
theorem turn_length (l : List UInt8) (f : Int) : (turn l f).length = l.length := by unfold turn; split <;> simp

def new : St := ⟨[], [], false⟩
def appE (s : St) (n : Nat) : Int := if s.down then 10 else if 4194304 < s.kept.length + s.rest.length + n then 7 else 0
def appS (s : St) (b : List UInt8) : St := if s.down then s else if 4194304 < s.kept.length + s.rest.length + b.length then s else ⟨s.kept, s.rest ++ b, false⟩
def synE (s : St) : Int := if s.down then 10 else 0
def synS (s : St) : St := if s.down then s else ⟨s.kept ++ s.rest, [], false⟩
def cutE (s : St) (n : Int) : Int := if s.down then 10 else if n < 0 ∨ ((s.kept.length + s.rest.length : Nat) : Int) < n then 2 else 0
def cutS (s : St) (n : Int) : St := if s.down then s else if n < 0 ∨ ((s.kept.length + s.rest.length : Nat) : Int) < n then s else ⟨(s.kept ++ s.rest).take n.toNat, [], false⟩
def swpE (s : St) (n : Nat) : Int := if s.down then 10 else if 4194304 < n then 7 else 0
def swpS (s : St) (b : List UInt8) : St := if s.down then s else if 4194304 < b.length then s else ⟨b, [], false⟩
def crsE (s : St) (k : Int) : Int := if s.down then 10 else if k < 0 then 2 else 0
def crsS (s : St) (k f : Int) : St := if s.down then s else if k < 0 then s else ⟨s.kept, turn (s.rest.take k.toNat) f, true⟩
def rstE (s : St) : Int := if s.down then 0 else 9
def rstS (s : St) : St := if s.down then ⟨s.kept ++ s.rest, [], false⟩ else s
def redE (s : St) : Int := if s.down then 10 else 0
def redB (s : St) : List UInt8 := if s.down then [] else s.kept ++ s.rest

def size (s : St) : Nat := s.kept.length + s.rest.length
theorem app_ok {s : St} {b : List UInt8} (h : size s ≤ 4194304) : size (appS s b) ≤ 4194304 := by
  unfold appS size at *
  split
  · exact h
  · split
    · exact h
    · simp; omega
theorem syn_ok {s : St} (h : size s ≤ 4194304) : size (synS s) ≤ 4194304 := by
  unfold synS size at *
  split
  · exact h
  · simp; omega
theorem cut_ok {s : St} {n : Int} (h : size s ≤ 4194304) : size (cutS s n) ≤ 4194304 := by
  unfold cutS size at *
  split
  · exact h
  · split
    · exact h
    · simp; omega
theorem swp_ok {s : St} {b : List UInt8} (h : size s ≤ 4194304) : size (swpS s b) ≤ 4194304 := by
  unfold swpS size at *
  split
  · exact h
  · split
    · exact h
    · simp; omega
theorem crs_ok {s : St} {k f : Int} (h : size s ≤ 4194304) : size (crsS s k f) ≤ 4194304 := by
  unfold crsS size at *
  split
  · exact h
  · split
    · exact h
    · simp [turn_length]; omega
theorem rst_ok {s : St} (h : size s ≤ 4194304) : size (rstS s) ≤ 4194304 := by
  unfold rstS size at *
  split
  · simp; omega
  · exact h

/-- What is kept stays. -/
theorem app_kept (s : St) (b : List UInt8) : s.kept <+: (appS s b).kept := by unfold appS; split; exact List.prefix_rfl; split <;> exact List.prefix_rfl
theorem syn_kept (s : St) : s.kept <+: (synS s).kept := by unfold synS; split; exact List.prefix_rfl; exact List.prefix_append _ _
theorem crs_kept (s : St) (k f : Int) : s.kept <+: (crsS s k f).kept := by unfold crsS; split; exact List.prefix_rfl; split <;> exact List.prefix_rfl
theorem rst_kept (s : St) : s.kept <+: (rstS s).kept := by unfold rstS; split; exact List.prefix_append _ _; exact List.prefix_rfl
end Go.Proofs.YtenkgpfeifflnaaGreat.Dp
