/-
  The contracts of the lists of texts that are read: readList[string], ReadTexts.
-/
import Derived.Test.YtenkgpfeifflnaaGreatReads2
import Derived.Test.YtenkgpfeifflnaaGreatKit2
namespace Go.Proofs.YtenkgpfeifflnaaGreat.Lt
open Go.RowKit Kt Pl Rd Wr Fw
set_option linter.unusedVariables false

theorem info9 : (Tryz.prog.info? 9).map (fun i => (i.zero, i.size, i.bytes)) = some (some (.string ByteArray.empty), 1, 16) := by kernel_rfl

theorem readText_err (bs : List UInt8) : (∃ s k, readText bs = (s, k, 0)) ∨ ∃ er, er ≠ 0 ∧ readText bs = ([], 0, er) := by
  unfold readText
  by_cases h : (readCount bs 4096).2.2 ≠ 0
  · right; exact ⟨_, h, by rw [if_pos h]⟩
  · rw [if_neg h]
    by_cases h2 : bs.length - (readCount bs 4096).2.1 < (readCount bs 4096).1
    · right; exact ⟨4, by omega, by rw [if_pos h2]⟩
    · left; exact ⟨_, _, by rw [if_neg h2]⟩

/-- What a list of texts that was read is handed back as. -/
def IsTexts (base : Nat) (r : List (List UInt8) × Nat × Nat) (w0 : World) (e : Ending) (w' : World) : Prop :=
  ∃ v, e = .returned (.tuple #[v, .int .i64 (r.2.1 : Int), .int .i64 (r.2.2 : Int)]) ∧ w'.ownsRow base 9 1 v r.1.length (T r.1) ∧ Below base w0 w'

theorem own_snoc {w : World} {base e : Nat} {v : Value} {l : List (List UInt8)} {n : List UInt8} (h : w.ownsRow base e 1 v (l.length + 1) (T l ++ [.string (S n)])) : w.ownsRow base e 1 v (l ++ [n]).length (T (l ++ [n])) := by
  rw [List.length_append, T_append]; exact h

theorem rl_ok {bs : List UInt8} {n k p j : Nat} {x : List UInt8} {l : List (List UInt8)} (hk : k < n) (h : readText (bs.drop p) = (x, j, 0)) : rl readText bs (n - k) l p = rl readText bs (n - (k + 1)) (l ++ [x]) (p + j) := by
  rw [show n - k = (n - (k + 1)) + 1 by omega, rl, h]; simp
theorem rl_bad {bs : List UInt8} {n k p er : Nat} {l : List (List UInt8)} (hk : k < n) (h : readText (bs.drop p) = ([], 0, er)) (he : er ≠ 0) : rl readText bs (n - k) l p = ([], 0, er) := by
  rw [show n - k = (n - (k + 1)) + 1 by omega, rl, h]; simp [he]

set_option maxHeartbeats 1000000 in
set_option maxRecDepth 20000 in
theorem readList_any (w : World) (ao : Option Addr) (cap : Nat) (bs : List UInt8) (hr : Row w ao bs) (hlen : bs.length ≤ 1000000000) (hcap : bs.length ≤ cap) (hc63 : cap ≤ 9223372036854775807) :
    Calls Tryz.prog 140 #[.slice ao bs.length cap, .func (Fn.func 139) #[] #[]] w fun e w' => IsTexts w.heap.size (readList readText bs) w e w' := by
  have H := readCount_any w ao cap 1024 bs hr hlen (by omega)
  rcases readCount_cases bs 1024 with ⟨n, j, h1, h2, h3⟩ | ⟨er, h1, h3⟩
  · have hb := readNum_once h1
    have hj := hb.2.1
    clear hb h1
    rw [h3] at H
    have HE : Hid (readList readText bs = rl readText bs n [] j) := mkH (by unfold readList; rw [h3]; simp)
    clear h3
    go_enter Tryz.func140, Tryz.ntmps140
    go_wp2_with fail
    refine H.mono ?_
    unfold ans
    rintro e w1 ⟨rfl, rfl⟩
    clear H
    go_wp2
    go_loopw [8, 10, 24] (fun sz v ct wr => ∃ (k p : Nat) (l : List (List UInt8)), k ≤ n ∧ p ≤ bs.length ∧ ct = .int .i64 k ∧ sz = .int .i64 p ∧ l.length ≤ k ∧ wr.ownsRow w1.heap.size 9 1 v l.length (T l) ∧ Hid (rl readText bs (n - k) l p = readList readText bs) ∧ Below w1.heap.size w1 wr)
      (fun _ _ ct _ => n - (intOf ct).toNat)
    case atStart => exact ⟨0, j, [], by omega, hj, rfl, rfl, by simp, World.ownsRow_nil _ _ _ _, HE.out.symm, Below.refl _ _⟩
    case round =>
      obtain ⟨k, p, l, hk, hp, rfl, rfl, hl, hown, hrl, hbel⟩ := hrel
      have hsz := hbel.size
      by_cases hlt : k < n
      · have hrd := Row_drop (hr.below hbel) (k := p) hcap
        obtain ⟨aq, haq⟩ : ∃ aq, (if cap = p then ao else Option.map (fun x => x.add p) ao) = aq := ⟨_, rfl⟩
        rw [haq] at hrd
        have HC := readText_any wr aq (cap - p) (bs.drop p) hrd (by rw [List.length_drop]; omega) (by rw [List.length_drop]; omega) (by omega)
        rw [List.length_drop] at HC
        clear hrd
        rcases readText_err (bs.drop p) with ⟨x, q, h⟩ | ⟨er, he, h⟩
        · have hb := readText_once h
          have hq := hb.2.1
          rw [List.length_drop] at hq
          have HR : Hid (rl readText bs (n - (k + 1)) (l ++ [x]) (p + q) = readList readText bs) := by rw [← rl_ok hlt h]; exact hrl
          rw [h] at HC
          clear hb hrl h
          go_wp2_with fail
          refine HC.mono ?_
          unfold ansT
          rintro e w2 ⟨rfl, rfl⟩
          clear HC
          go_wp2_with (at_builtin; refine (wpList_append_own_src _ rfl (.tmp 38) (.tmp 40) 29 29 rfl w1.heap.size 9 (.string ByteArray.empty) 1 16 Tryz.underlying29 info9 rfl (by decide) _ l.length (T l) rfl (hown.alloc _) _ 1 [.string (S x)] rfl (src_val Tryz.underlying29 _ _ rfl) ?h63 ?hby ?hbs ?_))
          case h63 => unfold maxLen; omega
          case hby => omega
          case hbs => simp; omega
          intro v3 w3 hown3 hgrow3
          have hb3 := below_own (hown.alloc _) hgrow3 (hbel.alloc hsz _) (by simp; omega)
          have hown4 := own_snoc hown3
          clear hown3 hgrow3 hown hbel
          go_wp2
          go_roundw
          case rel => exact ⟨k + 1, p + q, l ++ [x], by omega, by omega, by go_num, by go_num, by simp; omega, hown4, HR, hb3⟩
          case measure => simp [intOf]; omega
        · have HR : Hid (readList readText bs = ([], 0, er)) := by rw [← hrl.out]; exact rl_bad hlt h he
          have te : ((er : Int) == 0) = false := by simp; omega
          rw [h] at HC
          clear h hrl
          go_wp2_with fail
          refine HC.mono ?_
          unfold ansT
          rintro e w2 ⟨rfl, rfl⟩
          clear HC
          go_wp2
          go_ret3
          unfold IsTexts
          rw [HR.out]
          exact ⟨_, rfl, World.ownsRow_nil _ _ _ _, hbel⟩
      · have HR : Hid (readList readText bs = (l, p, 0)) := by rw [← hrl.out, show n - k = 0 by omega]; rfl
        clear hrl
        go_wp2
        go_ret3
        unfold IsTexts
        rw [HR.out]
        exact ⟨_, rfl, hown, hbel⟩
  · have HE : Hid (readList readText bs = ([], 0, er)) := mkH (by unfold readList; rw [h3]; rcases h1 with rfl | rfl | rfl <;> simp)
    rw [h3] at H
    clear h3 hr
    rcases h1 with rfl | rfl | rfl
    all_goals
      go_enter Tryz.func140, Tryz.ntmps140
      go_wp2_with fail
      refine H.mono ?_
      unfold ans
      rintro e w1 ⟨rfl, rfl⟩
      clear H
      go_wp2
      go_ret3
      unfold IsTexts
      rw [HE.out]
      exact ⟨_, rfl, World.ownsRow_nil _ _ _ _, Below.refl _ _⟩

set_option maxHeartbeats 400000 in
set_option maxRecDepth 20000 in
theorem readTexts_any (w : World) (ao : Option Addr) (cap : Nat) (bs : List UInt8) (hr : Row w ao bs) (hlen : bs.length ≤ 1000000000) (hcap : bs.length ≤ cap) (hc63 : cap ≤ 9223372036854775807) :
    Calls Tryz.prog 121 #[.slice ao bs.length cap] w fun e w' => IsTexts w.heap.size (readList readText bs) w e w' := by
  go_enter Tryz.func121, Tryz.ntmps121
  go_wp2_with fail
  refine (readList_any w ao cap bs hr hlen hcap hc63).mono ?_
  rintro e w1 ⟨v, rfl, hown, hb⟩
  go_wp2
  go_ret3
  exact ⟨v, rfl, hown, hb⟩
end Go.Proofs.YtenkgpfeifflnaaGreat.Lt
