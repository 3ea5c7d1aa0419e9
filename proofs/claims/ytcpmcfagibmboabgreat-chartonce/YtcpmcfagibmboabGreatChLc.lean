/-
  slices.Chunk's iterator over a row of numbers, three by three.
-/
import Derived.Test.YtcpmcfagibmboabGreatChLi
import Derived.Test.YtcpmcfagibmboabGreatChLb
import Derived.Sort.QuietIn
import Derived.Deep.QuietTactic
namespace Go.Proofs.YtcpmcfagibmboabGreat.Lc
open Go.RowKit Go.Shelf Kt Gf Gk Li
set_option linter.unusedVariables false
set_option linter.unusedSimpArgs false
set_option maxRecDepth 20000
attribute [local go_sem] Oper.semAt_some

theorem grown_of_below' {w w' : World} (h : Below w.heap.size w w') : w.grownBy w' none := ⟨h.os, h.tape, h.output, h.size, fun k hk _ => h.block k hk⟩
theorem chunk_any (w : World) (a : Option Addr) (m c : Nat) : Calls Tryz.prog 54 #[.slice a m c, .int .i64 3] w fun e w' => e = .returned (.func (.func 81) #[] #[.pointer (some ⟨w.heap.size, 0, none⟩), .pointer (some ⟨w.heap.size + 1, 0, none⟩)]) ∧ w' = (w.alloc (.cells #[.slice a m c] 74)).alloc (.cells #[.int .i64 3] 3) := by
  have c0 : ((w.alloc (.cells #[.slice a m c] 74)).alloc (.cells #[.int .i64 3] 3)).cell? ⟨w.heap.size + 1, 0, none⟩ = some (.int .i64 3) := (Bx.new1 w _ _ _).cell 0 _ rfl
  go_enter Tryz.func54, Tryz.ntmps54
  go_wp2
  go_ret
  exact ⟨rfl, rfl⟩

/-- What is told of a row of m numbers at b, off: the k-th three. -/
def arC (b off m : Nat) (k : Nat) : Array Value := #[.slice (some ⟨b, off + 3 * k, none⟩) (min 3 (m - 3 * k)) (min 3 (m - 3 * k))]

set_option maxRecDepth 100000 in
set_option maxHeartbeats 4000000 in
theorem chunk_seq (n : Nat) (hn : 1 ≤ n) (Q : Nat → Prop) (sb nb : Nat) {w : World} {a : Option Addr} {b off m c : Nat} (hs : Bx w sb #[.slice a m c] 74) (hnb : Bx w nb #[.int .i64 3] 3)
    (hQs : ¬ Q sb) (hQn : ¬ Q nb) (hm : m ≤ c) (hm2 : m ≤ 1000000) (hc : c ≤ 9223372036854775807) (ha : 0 < m → a = some ⟨b, off, none⟩) :
    SeqZ Tryz.prog n 81 #[.pointer (some ⟨sb, 0, none⟩), .pointer (some ⟨nb, 0, none⟩)] (arC b off m) Q (List.range ((m + 2) / 3)) w := fun lp J Z W hW hlp hlW hJ hZ hY h0 => by
  have hsW := hs.bel hW
  have hnW := hnb.bel hW
  have HNE : Hid (¬ Q sb ∧ sb ≠ lp ∧ ¬ Q nb ∧ nb ≠ lp) := mkH ⟨hQs, by have := hs.lt; omega, hQn, by have := hnb.lt; omega⟩
  have HJ0 := mkH (h0 W.heap.size (Nat.le_refl _))
  have HS0 := mkH hsW
  have HN0 := mkH hnW
  have HB : Hid (∀ q, q = sb ∨ q = nb → q < W.heap.size) := mkH (fun q h => by rcases h with rfl | rfl; exact hsW.lt; exact hnW.lt)
  clear hs hnb hsW hnW hQs hQn h0
  refine callsIn_of_wp Tryz.func81 rfl trivial ?_ rfl
  simp only [Tryz.ntmps81, List.size_toArray, List.length_cons, List.length_nil, Nat.reduceAdd, Nat.reduceSub, Array.replicate_succ, Array.replicate_zero, List.push_toArray, List.append_toArray, List.nil_append, List.cons_append]
  gi_wp2_with fail
  gi_loopw [4] (fun i wr => ∃ k j : Nat, j = 3 * k ∧ k ≤ (m + 2) / 3 ∧ i = .int .i64 (j : Int) ∧ Hid (J W.heap.size k wr) ∧ Hid (Bx wr sb #[.slice a m c] 74) ∧ Hid (Bx wr nb #[.int .i64 3] 3) ∧ W.heap.size ≤ wr.heap.size) (fun i _ => m + 2 - (intOf i).toNat)
  case atStart => exact ⟨0, 0, rfl, Nat.zero_le _, rfl, HJ0, HS0, HN0, Nat.le_refl _⟩
  case round =>
    obtain ⟨k, j, hj, hk, rfl, HJ, HS, HN, hmw⟩ := hrel
    clear HJ0 HS0 HN0
    have c0 : wr.cell? ⟨sb, 0, none⟩ = some (.slice a m c) := HS.out.cell 0 _ rfl
    have c1 : wr.cell? ⟨nb, 0, none⟩ = some (.int .i64 3) := HN.out.cell 0 _ rfl
    rcases Nat.lt_or_ge j m with hkl | hkl
    · obtain rfl := ha (by omega)
      have hk1 : (j : Int) < (m : Int) := by omega
      have hk3 : (j : Int) ≤ (m : Int) := by omega
      have hk4 : (0 : Int) ≤ (j : Int) := by omega
      have hk2 : k < (m + 2) / 3 := by omega
      have HJK := mkH hj
      clear hj
      gi_wp2_with fail
      gi_quiet (fail)
      obtain ⟨q, hq, hqi⟩ : ∃ q : Nat, q = min 3 (m - j) ∧ min (3 : Int) ((m - j : Nat) : Int) = (q : Int) := ⟨min 3 (m - j), rfl, by omega⟩
      rw [hqi]
      obtain ⟨W5, hW5⟩ : ∃ W5, W5 = wr.drewN nq := ⟨_, rfl⟩
      rw [← hW5]
      have hb5 : Below wr.heap.size wr W5 := by rw [hW5]; exact below_drewN (Below.refl _ _) _
      have hJ5 : J W.heap.size k W5 := hJ _ k wr W5 none HJ.out (grown_of_below' hb5) (fun r e => by cases e)
      have hx : (List.range ((m + 2) / 3))[k]? = some k := by rw [List.getElem?_range hk2]
      obtain ⟨fn, tmps, assign, body, hy, hR⟩ := hY _ k k W5 (Nat.le_refl _) (Nat.le_trans hmw hb5.size) hJ5 hx
      have hs5 := HS.out.bel hb5
      have hn5 := HN.out.bel hb5
      have c0 : W5.cell? ⟨sb, 0, none⟩ = some (.slice (some ⟨b, off, none⟩) m c) := hs5.cell 0 _ rfl
      have c1 : W5.cell? ⟨nb, 0, none⟩ = some (.int .i64 3) := hn5.cell 0 _ rfl
      have HS5 := mkH hs5
      have HN5 := mkH hn5
      have hm5 : W.heap.size ≤ W5.heap.size := Nat.le_trans hmw hb5.size
      simp only [arC] at hy
      rw [← HJK.out, ← hq] at hy
      have hq1 : 0 < q := by omega
      have hq3 : q ≤ 3 := by omega
      have hjq : j + q ≤ m := by omega
      have hji : (j : Int) + (q : Int) ≤ (m : Int) := by omega
      have hjc : (j : Int) + (q : Int) ≤ (c : Int) := by omega
      have HQ := mkH hq
      clear hb5 hJ5 hx hs5 hn5 hqi hq hW5 HJ HS HN hmw
      gi_wp2_with fail
      refine hR.mono ?_
      rintro e W3 (⟨rfl, hJ3, hk3⟩ | ⟨rfl, hZ3⟩)
      · have hS3 : Bx W3 sb #[.slice (some ⟨b, off, none⟩) m c] 74 := (hk3.block sb (HB.out sb (.inl rfl)) HS5.out.lt (fun h => h.elim HNE.out.1 HNE.out.2.1)).trans HS5.out
        have hN3 : Bx W3 nb #[.int .i64 3] 3 := (hk3.block nb (HB.out nb (.inr rfl)) HN5.out.lt (fun h => h.elim HNE.out.2.2.1 HNE.out.2.2.2)).trans HN5.out
        have HS3 := mkH hS3
        have HN3 := mkH hN3
        have HJ3 := mkH hJ3
        have hm3 : W.heap.size ≤ W3.heap.size := Nat.le_trans hm5 hk3.size
        have c2 : W3.cell? ⟨nb, 0, none⟩ = some (.int .i64 3) := hN3.cell 0 _ rfl
        clear hJ3 hk3 hy hR c0 c1 hS3 hN3 HS5 HN5
        gi_wp2
        go_roundw
        case rel => exact ⟨k + 1, j + 3, by have := HJK.out; omega, by omega, by go_num, HJ3, HS3, HN3, hm3⟩
        case measure => simp [intOf]; omega
      · have HZ3 := mkH hZ3
        clear hZ3 hy hR c0 c1
        gi_wp2
        refine bodyPost_ret (v := .tuple #[]) (results_none rfl _ _ _) rfl ?_
        exact ⟨⟨_, rfl⟩, W.heap.size, Nat.le_refl _, .inr ⟨k + 1, by rw [List.length_range]; omega, HZ3.out⟩⟩
    · have hk1 : ¬ (j : Int) < (m : Int) := by omega
      obtain rfl : k = (m + 2) / 3 := by omega
      gi_wp2
      refine bodyPost_end (results_none rfl _ _ _) rfl ?_
      exact ⟨⟨_, rfl⟩, W.heap.size, Nat.le_refl _, .inl (by first | exact HJ.out | (rw [List.length_range]; exact HJ.out))⟩
end Go.Proofs.YtcpmcfagibmboabGreat.Lc
