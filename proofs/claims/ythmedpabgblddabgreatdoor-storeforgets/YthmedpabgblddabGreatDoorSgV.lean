/-
  A log beside memory that stays: the contracts once more, as the laws use them.
-/
import Derived.Test.YthmedpabgblddabGreatDoorSgT
import Derived.Test.YthmedpabgblddabGreatDoorSgU
namespace Go.Proofs.YthmedpabgblddabGreatDoor.Sv
open Go.RowKit Kt Cs Cf Cv Dk Dp Da Db Dc Dd De Sq Sr Sa Sb Sc Se Sf Sk Sm St Su Pl
set_option linter.unusedVariables false
set_option maxRecDepth 20000

/-- Block B is a log, apart from the blocks of G, which are as they were in w1. -/
structure Ln (w1 : World) (G : Nat → Prop) (w : World) (B : Nat) (h : H) : Prop where
  lg : ∃ F, Lg w F B h ∧ ∀ k, F k → ¬ G k
  fr : Fr (fun k => ¬ G k) w1 w
  lt : ∀ k, G k → k < w1.heap.size
  g0 : G 0
  tb : Tb w1
theorem Ln.step {w1 : World} {G : Nat → Prop} {w w' : World} {B : Nat} {h h' : H} {F F' : Nat → Prop} (hl : Ln w1 G w B h) (hF : ∀ k, F k → ¬ G k) (hg : Lg w' F' B h') (hn : Nx F w w' F') : Ln w1 G w' B h' := by
  refine ⟨⟨F', hg, fun k hk hG => ?_⟩, hl.fr.trans hn.1 (fun i hi => .inl (hF i hi)), hl.lt, hl.g0, hl.tb⟩
  rcases hn.2 k hk with x | x
  · exact hF k x hG
  · have := hl.lt k hG; have := hl.fr.size; omega
theorem Ln.below {w1 : World} {G : Nat → Prop} {w w' : World} {B : Nat} {h : H} (hl : Ln w1 G w B h) (hb : Below w.heap.size w w') : Ln w1 G w' B h := by
  obtain ⟨F, h1, h2⟩ := hl.lg
  exact ⟨⟨F, h1.below hb, h2⟩, hl.fr.trans (Fr.ofBelow (F := fun _ => False) hb) (fun _ x => x.elim), hl.lt, hl.g0, hl.tb⟩
theorem Ln.tbw {w1 : World} {G : Nat → Prop} {w : World} {B : Nat} {h : H} (hl : Ln w1 G w B h) : Tb w := tb_fr hl.tb hl.fr (fun x => x hl.g0)
theorem Ln.size {w1 : World} {G : Nat → Prop} {w : World} {B : Nat} {h : H} (hl : Ln w1 G w B h) : w1.heap.size ≤ w.heap.size := hl.fr.size
theorem Ln.toBelow {w1 : World} {G : Nat → Prop} {w : World} {B : Nat} {h : H} (hl : Ln w1 G w B h) {b : Nat} (hB : ∀ k, k < b → G k) : Below b w1 w :=
  ⟨hl.fr.os, hl.fr.tape, hl.fr.output, hl.fr.size, fun k hk => hl.fr.block k (hl.lt k (hB k hk)) (fun x => x (hB k hk))⟩
/-- What a call handed back is protected from now on. -/
theorem Ln.more {w1 : World} {G : Nat → Prop} {w w' : World} {B : Nat} {h : H} (hl : Ln w1 G w B h) (hb : Below w.heap.size w w') : Ln w' (fun k => G k ∨ (w.heap.size ≤ k ∧ k < w'.heap.size)) w' B h := by
  obtain ⟨F, h1, h2⟩ := hl.lg
  refine ⟨⟨F, h1.below hb, fun k hk hG => ?_⟩, Fr.refl _ _, fun k hk => ?_, .inl hl.g0, (hl.below hb).tbw⟩
  · rcases hG with x | x
    · exact h2 k hk x
    · have := h1.lt k hk; omega
  · rcases hk with x | x
    · have := hl.lt k x; have := hl.fr.size; have := hb.size; omega
    · exact x.2
theorem Ln.row {w1 : World} {G : Nat → Prop} {w : World} {B : Nat} {h : H} (hl : Ln w1 G w B h) {ao : Option Addr} {bs : List UInt8} (hr : Row w1 ao bs) (hG : ∀ b off, ao = some ⟨b, off, none⟩ → b < w1.heap.size → G b) : Row w ao bs := by
  intro h0
  obtain ⟨b, off, e, hc⟩ := hr h0
  refine ⟨b, off, e, fun i hi => ?_⟩
  have hlb := World.block_lt_of_cell? w1 _ (hc i hi)
  rw [← hc i hi]
  exact World.cell?_of_block (w := w1) (hl.fr.heap (k := b) hlb (fun x => x (hG b off e hlb)))

/-! What each call leaves, up or down. -/
def apH (h : H) (r : List UInt8) : H := if h.dn.isSome then h else app h r
def syH (h : H) : H := if h.dn.isSome then h else syn h
def drH (h : H) (n : Int) : H := if h.dn.isSome then h else dro h n
def crH (h : H) (k f : Int) : H := if h.dn.isSome then h else crs h k f
def apE (h : H) : Int := if h.dn.isSome then 10 else appErr h
def apN (h : H) : Int := if h.dn.isSome then 0 else appNum h
def syE (h : H) : Int := if h.dn.isSome then 10 else 0
def drE (h : H) (n : Int) : Int := if h.dn.isSome then 10 else if (h.safe : Int) < n then 2 else 0
def crE (h : H) (k : Int) : Int := if h.dn.isSome then 10 else if k < 0 then 2 else 0
def rsE (h : H) : Int := if h.dn.isSome then 0 else 9
theorem Inv.more {N M : Nat} {h : H} (hi : Inv N h) (hm : N ≤ M) : Inv M h := ⟨hi.p1, hi.p2, hi.n, hi.ch, hi.fits, hi.kept, hi.lo, hi.hi, Nat.le_trans hi.top hm⟩
theorem inv_ap {N : Nat} {h : H} (hi : Inv N h) (hN : N + 1 ≤ 1000000) {r : List UInt8} (hr : r.length ≤ 400) : Inv (N + 1) (apH h r) := by
  unfold apH; split
  · exact Inv.more hi (by omega)
  · exact Sr.Inv.app hi hN hr
theorem inv_sy {N : Nat} {h : H} (hi : Inv N h) : Inv N (syH h) := by unfold syH; split; exact hi; exact Sr.Inv.syn hi
theorem inv_dr {N : Nat} {h : H} (hi : Inv N h) (n : Int) : Inv N (drH h n) := by unfold drH; split; exact hi; exact Sr.Inv.dro hi n
theorem inv_cr {N : Nat} {h : H} (hi : Inv N h) (k f : Int) : Inv N (crH h k f) := by unfold crH; split; exact hi; exact Sr.Inv.crs hi k f
theorem inv_rs {N : Nat} {h : H} (hi : Inv N h) : Inv N (rst h) := Sr.Inv.rst hi
theorem inv_new {per : Nat} (h1 : 1 ≤ per) (h2 : per ≤ 1024) : Inv 0 ⟨per, [], 0, none⟩ := ⟨h1, h2, by simp, trivial, fun s hs => (by cases hs), fun s hs => (by cases hs), Nat.le_refl _, Nat.le_refl _, Nat.le_refl _⟩

section
variable {w1 : World} {G : Nat → Prop} {w : World} {B : Nat} {h : H} {N : Nat}
theorem append_ln (hl : Ln w1 G w B h) (hi : Inv N h) (hN : N ≤ 1000000) (ao : Option Addr) (cap : Nat) (r : List UInt8) (hr : Row w ao r) (hrl : r.length ≤ 400) :
    Calls Tryz.prog 40 #[.pointer (some ⟨B, 0, none⟩), .slice ao r.length cap] w fun e w' => e = .returned (.tuple #[.int .i64 (apN h), .int .i64 (apE h)]) ∧ Ln w1 G w' B (apH h r) := by
  obtain ⟨F, h1, h2⟩ := hl.lg
  cases hd : h.dn with
  | none =>
    have e1 : apN h = appNum h := by simp [apN, hd]
    have e2 : apE h = appErr h := by simp [apE, hd]
    have e3 : apH h r = app h r := by simp [apH, hd]
    rw [e1, e2, e3]
    refine (append_up h1 hi hN hl.tbw hd ao cap r hr hrl).mono ?_
    rintro e w' ⟨rfl, F', h3, h4⟩
    exact ⟨rfl, hl.step h2 h3 h4⟩
  | some p =>
    have e1 : apN h = 0 := by simp [apN, hd]
    have e2 : apE h = 10 := by simp [apE, hd]
    have e3 : apH h r = h := by simp [apH, hd]
    rw [e1, e2, e3]
    refine (append_down h1 hi.p1 hd _).mono ?_
    rintro e w' ⟨rfl, rfl⟩
    exact ⟨rfl, hl⟩

theorem sync_ln (hl : Ln w1 G w B h) (hi : Inv N h) : Calls Tryz.prog 26 #[.pointer (some ⟨B, 0, none⟩)] w fun e w' => e = .returned (.int .i64 (syE h)) ∧ Ln w1 G w' B (syH h) := by
  obtain ⟨F, h1, h2⟩ := hl.lg
  cases hd : h.dn with
  | none =>
    have e2 : syE h = 0 := by simp [syE, hd]
    have e3 : syH h = syn h := by simp [syH, hd]
    rw [e2, e3]
    refine (sync_up h1 hi.p1 hi.n hd).mono ?_
    rintro e w' ⟨rfl, F', h3, h4⟩
    exact ⟨rfl, hl.step h2 h3 h4⟩
  | some p =>
    have e2 : syE h = 10 := by simp [syE, hd]
    have e3 : syH h = h := by simp [syH, hd]
    rw [e2, e3]
    refine (sync_down h1 hi.p1 hd).mono ?_
    rintro e w' ⟨rfl, rfl⟩
    exact ⟨rfl, hl⟩

theorem crash_ln (hl : Ln w1 G w B h) (hi : Inv N h) (k f : Int) (hf : f ≤ 9223372036854775807) : Calls Tryz.prog 27 #[.pointer (some ⟨B, 0, none⟩), .int .i64 k, .int .i64 f] w fun e w' => e = .returned (.int .i64 (crE h k)) ∧ Ln w1 G w' B (crH h k f) := by
  obtain ⟨F, h1, h2⟩ := hl.lg
  cases hd : h.dn with
  | none =>
    by_cases hk : k < 0
    · have e2 : crE h k = 2 := by simp [crE, hd, hk]
      have e3 : crH h k f = h := by simp [crH, hd, crs, hk]
      rw [e2, e3]
      refine (crash_bad h1 hi.p1 hd k f hk).mono ?_
      rintro e w' ⟨rfl, rfl⟩
      exact ⟨rfl, hl⟩
    · have e2 : crE h k = 0 := by simp [crE, hd, hk]
      have e3 : crH h k f = { h with dn := some (k, f) } := by simp [crH, hd, crs, hk]
      rw [e2, e3]
      refine (crash_up h1 hi.p1 hd hi.n k f (by omega) hf).mono ?_
      rintro e w' ⟨rfl, F', h3, h4⟩
      exact ⟨rfl, hl.step h2 h3 h4⟩
  | some p =>
    have e2 : crE h k = 10 := by simp [crE, hd]
    have e3 : crH h k f = h := by simp [crH, hd]
    rw [e2, e3]
    refine (crash_down h1 hi.p1 hd k f).mono ?_
    rintro e w' ⟨rfl, rfl⟩
    exact ⟨rfl, hl⟩

theorem restart_ln (hl : Ln w1 G w B h) (hi : Inv N h) (hN : N ≤ 1000000) : Calls Tryz.prog 29 #[.pointer (some ⟨B, 0, none⟩)] w fun e w' => e = .returned (.int .i64 (rsE h)) ∧ Ln w1 G w' B (rst h) := by
  obtain ⟨F, h1, h2⟩ := hl.lg
  cases hd : h.dn with
  | none =>
    have e2 : rsE h = 9 := by simp [rsE, hd]
    have e3 : rst h = h := by unfold rst; rw [hd]
    rw [e2, e3]
    refine (restart_up h1 hi.p1 hd).mono ?_
    rintro e w' ⟨rfl, rfl⟩
    exact ⟨rfl, hl⟩
  | some p =>
    have e2 : rsE h = 0 := by simp [rsE, hd]
    rw [e2]
    refine (restart_down h1 hi hN hl.tbw (fun x => h2 0 x hl.g0) hd).mono ?_
    rintro e w' ⟨rfl, F', h3, h4⟩
    exact ⟨rfl, hl.step h2 h3 h4⟩

theorem base_ln (hl : Ln w1 G w B h) (hp : 1 ≤ h.per) : Calls Tryz.prog 57 #[.pointer (some ⟨B, 0, none⟩)] w fun e w' => e = .returned (.int .i64 (nb h : Nat)) ∧ w' = w := by obtain ⟨F, h1, h2⟩ := hl.lg; exact base_any h1 hp

theorem down_ln (hl : Ln w1 G w B h) (hp : 1 ≤ h.per) : Calls Tryz.prog 39 #[.pointer (some ⟨B, 0, none⟩)] w fun e w' => e = .returned (.bool h.dn.isSome) ∧ w' = w := by obtain ⟨F, h1, h2⟩ := hl.lg; exact Sa.down_any h1 hp

end

theorem new_ln (w : World) (hT : Tb w) (per : Nat) (h1 : 1 ≤ per) (h2 : per ≤ 1024) : Calls Tryz.prog 34 #[.int .i64 (per : Int)] w fun e w' => e = .returned (.tuple #[.pointer (some ⟨w.heap.size, 0, none⟩), .int .i64 0]) ∧ Ln w (fun k => k < w.heap.size) w' w.heap.size ⟨per, [], 0, none⟩ := by
  refine (Sa.new_any w per h1 h2).mono ?_
  rintro e w' ⟨rfl, h3, h4⟩
  exact ⟨rfl, ⟨_, h3, fun k hk x => by omega⟩, Fr.ofBelow h4, fun k hk => hk, hT.size, hT⟩
end Go.Proofs.YthmedpabgblddabGreatDoor.Sv
