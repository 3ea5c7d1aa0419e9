/-
  The contracts of readCount and ReadText.
-/
import Derived.Test.YtenkgpfeifflnaaGreatFew
import Derived.Test.YtenkgpfeifflnaaGreatTexts
namespace Go.Proofs.YtenkgpfeifflnaaGreat.Rd
open Go.RowKit Kt Pl Wr Fw
set_option linter.unusedVariables false

set_option maxHeartbeats 400000 in
set_option maxRecDepth 20000 in
theorem readCount_any (w : World) (ao : Option Addr) (cap lim : Nat) (bs : List UInt8) (hr : Row w ao bs) (hlen : bs.length ≤ 1000000000) (_hlim : lim ≤ 5000) :
    Calls Tryz.prog 147 #[.slice ao bs.length cap, .int .i64 lim] w fun e w' => e = ans (readCount bs lim) ∧ w' = w := by
  have H := readNum_any w ao cap bs hr hlen
  rcases readNum_err bs with ⟨n, k, h⟩ | h | h
  · by_cases hl : n ≤ lim
    · have hb := readNum_once h
      have HE : Hid (readCount bs lim = (n, k, 0)) := readCount_ok h hl
      rw [h] at H
      have c1 : ¬ ((lim : Int) < (n : Int)) := by omega
      clear h
      go_enter Tryz.func147, Tryz.ntmps147
      go_wp2_with fail
      refine H.mono ?_
      unfold ans
      rintro e w1 ⟨rfl, rfl⟩
      clear H
      go_wp2
      go_ret3
      exact ⟨by rw [HE.out]; rfl, rfl⟩
    · have HE : Hid (readCount bs lim = (0, 0, 3)) := mkH (by unfold readCount; rw [h]; simp [show lim < n by omega])
      rw [h] at H
      have c1 : (lim : Int) < (n : Int) := by omega
      clear h hl
      go_enter Tryz.func147, Tryz.ntmps147
      go_wp2_with fail
      refine H.mono ?_
      unfold ans
      rintro e w1 ⟨rfl, rfl⟩
      clear H
      go_wp2
      go_ret3
      exact ⟨by rw [HE.out]; rfl, rfl⟩
  · have HE : Hid (readCount bs lim = (0, 0, 4)) := mkH (by unfold readCount; rw [h]; simp)
    rw [h] at H
    clear h
    go_enter Tryz.func147, Tryz.ntmps147
    go_wp2_with fail
    refine H.mono ?_
    unfold ans
    rintro e w1 ⟨rfl, rfl⟩
    clear H
    go_wp2
    go_ret3
    exact ⟨by rw [HE.out]; rfl, rfl⟩
  · have HE : Hid (readCount bs lim = (0, 0, 5)) := mkH (by unfold readCount; rw [h]; simp)
    rw [h] at H
    clear h
    go_enter Tryz.func147, Tryz.ntmps147
    go_wp2_with fail
    refine H.mono ?_
    unfold ans
    rintro e w1 ⟨rfl, rfl⟩
    clear H
    go_wp2
    go_ret3
    exact ⟨by rw [HE.out]; rfl, rfl⟩

/-- What ReadText hands back. -/
def ansT (r : List UInt8 × Nat × Nat) : Ending := .returned (.tuple #[.string (S r.1), .int .i64 (r.2.1 : Int), .int .i64 (r.2.2 : Int)])

set_option maxHeartbeats 400000 in
set_option maxRecDepth 20000 in
theorem readText_any (w : World) (ao : Option Addr) (cap : Nat) (bs : List UInt8) (hr : Row w ao bs) (hlen : bs.length ≤ 1000000000) (hcap : bs.length ≤ cap) (hc63 : cap ≤ 9223372036854775807) :
    Calls Tryz.prog 139 #[.slice ao bs.length cap] w fun e w' => e = ansT (readText bs) ∧ w' = w := by
  have H := readCount_any w ao cap 4096 bs hr hlen (by omega)
  rcases readCount_cases bs 4096 with ⟨n, k, h1, h2, h3⟩ | ⟨er, h1, h3⟩
  · have hb := readNum_once h1
    have hk1 := hb.1
    have hk2 := hb.2.1
    clear hb h1
    rw [h3] at H
    by_cases hs : bs.length - k < n
    · have HE : Hid (readText bs = ([], 0, 4)) := mkH (by unfold readText; rw [h3]; simp [hs])
      have c1 : (bs.length : Int) - (k : Int) < (n : Int) := by omega
      clear h3
      go_enter Tryz.func139, Tryz.ntmps139
      go_wp2_with fail
      refine H.mono ?_
      unfold ans
      rintro e w1 ⟨rfl, rfl⟩
      clear H
      go_wp2
      go_ret3
      exact ⟨by rw [HE.out]; rfl, rfl⟩
    · have HE : Hid (readText bs = ((bs.drop k).take n, k + n, 0)) := mkH (by unfold readText; rw [h3]; simp [hs])
      have c1 : ¬ ((bs.length : Int) - (k : Int) < (n : Int)) := by omega
      have hln : ((bs.drop k).take n).length = n := by rw [List.length_take, List.length_drop]; omega
      have hs1 := run_string (P := Tryz.prog) (src := 79) (dst := 9) Tryz.underlying79 Tryz.underlying5 Tryz.underlying9 (Row_take (Row_drop hr (k := k) hcap) n) (cap - k)
      rw [hln] at hs1
      clear h3 hs hr hln
      go_enter Tryz.func139, Tryz.ntmps139
      go_wp2_with fail
      refine H.mono ?_
      unfold ans
      rintro e w1 ⟨rfl, rfl⟩
      clear H
      go_wp2
      all_goals
        go_ret3
        exact ⟨by rw [HE.out]; simp [ansT], rfl⟩
  · have HE : Hid (readText bs = ([], 0, er)) := mkH (by unfold readText; rw [h3]; rcases h1 with rfl | rfl | rfl <;> simp)
    rw [h3] at H
    clear h3 hr
    rcases h1 with rfl | rfl | rfl
    all_goals
      go_enter Tryz.func139, Tryz.ntmps139
      go_wp2_with fail
      refine H.mono ?_
      unfold ans
      rintro e w1 ⟨rfl, rfl⟩
      clear H
      go_wp2
      go_ret3
      exact ⟨by rw [HE.out]; rfl, rfl⟩
end Go.Proofs.YtenkgpfeifflnaaGreat.Rd
