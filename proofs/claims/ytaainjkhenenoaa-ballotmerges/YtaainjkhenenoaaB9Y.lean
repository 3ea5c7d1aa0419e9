/-
  'string(b)' in the worlds that a drawn region goes through; lists of votes that are alike: the document's look.
-/
import Derived.Test.YtaainjkhenenoaaB9R
import Derived.BigQuiet
import Derived.Deep.QuietTactic
namespace Go.Proofs.Ytaainjkhenenoaa.By
open Go.RowKit Kt Dk Bp Bm Br
set_option linter.unusedVariables false
set_option maxRecDepth 20000

theorem strW {ao : Option Addr} {bs : List UInt8} {w : World} (h : Row w ao bs) (c : Nat) : ∀ n, (convert 36 9 (.slice ao bs.length c)).run Try.prog (w.drewN n) = .ok (.string (S bs)) (w.drewN n) := fun n =>
  run_string (P := Try.prog) (w := w.drewN n) Try.underlying36 Try.underlying5 Try.underlying9 h c
theorem strD {ao : Option Addr} {bs : List UInt8} {w : World} (h : Row w ao bs) (c : Nat) : (convert 36 9 (.slice ao bs.length c)).run Try.prog w.drew = .ok (.string (S bs)) w.drew :=
  run_string (P := Try.prog) (w := w.drew) Try.underlying36 Try.underlying5 Try.underlying9 h c
theorem strW0 {ao : Option Addr} {bs : List UInt8} {w : World} (h : Row w ao bs) (c : Nat) : (convert 36 9 (.slice ao bs.length c)).run Try.prog w = .ok (.string (S bs)) w := strW h c 0
/-- Lists that are alike have alike votes at one place. -/
theorem p3_at {l m : List X} (h : l.map p3 = m.map p3) {i : Nat} {x : X} (hx : l[i]? = some x) : ∃ a c, m[i]? = some ⟨x.s, x.b, x.v, a, c⟩ := by
  have h1 : (l.map p3)[i]? = some (p3 x) := by rw [List.getElem?_map, hx]; rfl
  rw [h, List.getElem?_map] at h1
  cases hm : m[i]? with
  | none => rw [hm] at h1; cases h1
  | some y =>
    rw [hm] at h1
    obtain ⟨s, b, v, a, c⟩ := y
    simp only [Option.map_some, p3, Option.some.injEq, Prod.mk.injEq] at h1
    obtain ⟨rfl, rfl, rfl⟩ := h1
    exact ⟨a, c, rfl⟩
theorem p3_len {l m : List X} (h : l.map p3 = m.map p3) : m.length = l.length := by
  have := congrArg List.length h
  simpa using this.symm

set_option maxHeartbeats 4000000 in
theorem same_any (w : World) (a b : Option Addr) (ca cb : Nat) (l m : List X) (ha : RX w a l) (hb : RX w b m) (hl : l.length ≤ 1000) (h : l.map p3 = m.map p3) :
    Calls Try.prog 22 #[.slice a l.length ca, .slice b m.length cb] w fun e w' => e = .returned (.bool true) ∧ Below w.heap.size w w' := by
  have hml := p3_len h
  rw [hml]
  have HA := mkH ha
  have HBb := mkH hb
  have HP := mkH h
  have HML := mkH hml
  clear ha hb h hml
  go_enter Try.func22, Try.ntmps22
  go_wp2_with fail
  go_loopw [5] (fun i wr => ∃ j : Nat, j ≤ l.length ∧ i = .int .i64 (j : Int) ∧ Hid (Below w.heap.size w wr)) (fun i _ => l.length - (intOf i).toNat)
  case atStart => exact ⟨0, Nat.zero_le _, rfl, mkH (Below.refl _ _)⟩
  case round =>
    obtain ⟨j, hj, rfl, HB⟩ := hrel
    rcases Nat.lt_or_ge j l.length with hjl | hjl
    · obtain ⟨x, hx⟩ := some_of hjl
      obtain ⟨ya, yc, hy⟩ := p3_at HP.out hx
      obtain ⟨b1, o1, rfl, hok1, c0, c1, c2⟩ := RX.at (HA.out.below HB.out) hx
      obtain ⟨b2, o2, rfl, hok2, d0, d1, d2⟩ := RX.at (HBb.out.below HB.out) hy
      obtain ⟨s, bl, v, xa, xc⟩ := x
      simp only at c0 c1 c2 d0 d1 d2 hok1 hok2
      have s1 := strW hok1.1 xc
      have s2 := strW hok2.1 yc
      have s3 := strW0 hok1.1 xc
      have s4 := strW0 hok2.1 yc
      simp only at s1 s2 s3 s4
      clear hok1 hok2 hx hy
      go_wp2_with fail
      go_quiet (fail)
      go_wp2
      go_roundw
      case rel => exact ⟨j + 1, by omega, by go_num, mkH (below_drewN HB.out _)⟩
      case measure => simp [intOf]; omega
    · have hje : j = l.length := by omega
      subst hje
      go_wp2
      go_ret
      exact ⟨rfl, HB.out⟩
end Go.Proofs.Ytaainjkhenenoaa.By
