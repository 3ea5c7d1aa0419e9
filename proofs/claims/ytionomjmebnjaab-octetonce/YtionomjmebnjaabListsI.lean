/-
  The contracts of the lists of numbers: readList[int], ReadNums, addList[int], Nums.
-/
import Derived.Test.YtionomjmebnjaabReads2
import Derived.Test.YtionomjmebnjaabKit2
namespace Go.Proofs.Ytionomjmebnjaab.Li
open Go.RowKit Kt Pl Rd Wr Fw
set_option linter.unusedVariables false

theorem info3 : (Try.prog.info? 3).map (fun i => (i.zero, i.size, i.bytes)) = some (some (.int .i64 0), 1, 8) := by kernel_rfl

/-- What a list of numbers that was read is handed back as. -/
def IsNums (base : Nat) (r : List Nat × Nat × Nat) (w0 : World) (e : Ending) (w' : World) : Prop :=
  ∃ v, e = .returned (.tuple #[v, .int .i64 (r.2.1 : Int), .int .i64 (r.2.2 : Int)]) ∧ w'.ownsRow base 3 1 v r.1.length (I r.1) ∧ Below base w0 w'

theorem own_snoc {w : World} {base e : Nat} {v : Value} {l : List Nat} {n : Nat} (h : w.ownsRow base e 1 v (l.length + 1) (I l ++ [.int .i64 (n : Int)])) : w.ownsRow base e 1 v (l ++ [n]).length (I (l ++ [n])) := by
  rw [List.length_append, I_append]; exact h

theorem rl_ok {bs : List UInt8} {n k p x j : Nat} {l : List Nat} (hk : k < n) (h : readNum (bs.drop p) = (x, j, 0)) : rl readNum bs (n - k) l p = rl readNum bs (n - (k + 1)) (l ++ [x]) (p + j) := by
  rw [show n - k = (n - (k + 1)) + 1 by omega, rl, h]; simp
theorem rl_bad {bs : List UInt8} {n k p er : Nat} {l : List Nat} (hk : k < n) (h : readNum (bs.drop p) = (0, 0, er)) (he : er ≠ 0) : rl readNum bs (n - k) l p = ([], 0, er) := by
  rw [show n - k = (n - (k + 1)) + 1 by omega, rl, h]; simp [he]

set_option maxHeartbeats 1000000 in
set_option maxRecDepth 20000 in
theorem readList_any (w : World) (ao : Option Addr) (cap : Nat) (bs : List UInt8) (hr : Row w ao bs) (hlen : bs.length ≤ 1000000000) (hcap : bs.length ≤ cap) (hc63 : cap ≤ 9223372036854775807) :
    Calls Try.prog 17 #[.slice ao bs.length cap, .func (Fn.func 6) #[] #[]] w fun e w' => IsNums w.heap.size (readList readNum bs) w e w' := by
  have H := readCount_any w ao cap 1024 bs hr hlen (by omega)
  rcases readCount_cases bs 1024 with ⟨n, j, h1, h2, h3⟩ | ⟨er, h1, h3⟩
  · have hb := readNum_once h1
    have hj := hb.2.1
    clear hb h1
    rw [h3] at H
    have HE : Hid (readList readNum bs = rl readNum bs n [] j) := mkH (by unfold readList; rw [h3]; simp)
    clear h3
    go_enter Try.func17, Try.ntmps17
    go_wp2_with fail
    refine H.mono ?_
    unfold ans
    rintro e w1 ⟨rfl, rfl⟩
    clear H
    go_wp2
    go_loopw [8, 10, 24] (fun sz v ct wr => ∃ (k p : Nat) (l : List Nat), k ≤ n ∧ p ≤ bs.length ∧ ct = .int .i64 k ∧ sz = .int .i64 p ∧ l.length ≤ k ∧ wr.ownsRow w1.heap.size 3 1 v l.length (I l) ∧ Hid (rl readNum bs (n - k) l p = readList readNum bs) ∧ Below w1.heap.size w1 wr)
      (fun _ _ ct _ => n - (intOf ct).toNat)
    case atStart => exact ⟨0, j, [], by omega, hj, rfl, rfl, by simp, World.ownsRow_nil _ _ _ _, HE.out.symm, Below.refl _ _⟩
    case round =>
      obtain ⟨k, p, l, hk, hp, rfl, rfl, hl, hown, hrl, hbel⟩ := hrel
      have hsz := hbel.size
      by_cases hlt : k < n
      · have hrd := Row_drop (hr.below hbel) (k := p) hcap
        obtain ⟨aq, haq⟩ : ∃ aq, (if cap = p then ao else Option.map (fun x => x.add p) ao) = aq := ⟨_, rfl⟩
        rw [haq] at hrd
        have HC := readNum_any wr aq (cap - p) (bs.drop p) hrd (by rw [List.length_drop]; omega)
        rw [List.length_drop] at HC
        clear hrd
        rcases readNum_err (bs.drop p) with ⟨x, q, h⟩ | h | h
        · have hb := readNum_once h
          have hq := hb.2.1
          rw [List.length_drop] at hq
          have hx := hb.2.2.1
          have HX : Hid (x ≤ 4611686018427387904) := hx
          have HR : Hid (rl readNum bs (n - (k + 1)) (l ++ [x]) (p + q) = readList readNum bs) := by rw [← rl_ok hlt h]; exact hrl
          rw [h] at HC
          clear hb hrl h hx
          go_wp2_with fail
          refine HC.mono ?_
          unfold ans
          rintro e w2 ⟨rfl, rfl⟩
          clear HC
          go_wp2_with (at_builtin; refine (wpList_append_own_src _ rfl (.tmp 38) (.tmp 40) 32 32 rfl w1.heap.size 3 (.int .i64 0) 1 8 Try.underlying32 info3 rfl (by decide) _ l.length (I l) rfl (hown.alloc _) _ 1 [.int .i64 (x : Int)] rfl (src_val Try.underlying32 _ _ rfl) ?h63 ?hby ?hbs ?_))
          case h63 => unfold maxLen; omega
          case hby => omega
          case hbs => simp; omega
          intro v3 w3 hown3 hgrow3
          have hb3 := below_own (hown.alloc _) hgrow3 (hbel.alloc hsz _) (by simp; omega)
          have hown4 := own_snoc hown3
          clear hown3 hgrow3 hown hbel
          go_wp2
          go_roundw
          case rel => exact ⟨k + 1, p + q, l ++ [x], by omega, by omega, by go_num, by go_num, by simp; omega, hown4, HR, hb3⟩
          case measure => simp [intOf]; omega
        · have HR : Hid (readList readNum bs = ([], 0, 4)) := by rw [← hrl.out]; exact rl_bad hlt h (by omega)
          rw [h] at HC
          clear h hrl
          go_wp2_with fail
          refine HC.mono ?_
          unfold ans
          rintro e w2 ⟨rfl, rfl⟩
          clear HC
          go_wp2
          go_ret3
          unfold IsNums
          rw [HR.out]
          exact ⟨_, rfl, World.ownsRow_nil _ _ _ _, hbel⟩
        · have HR : Hid (readList readNum bs = ([], 0, 5)) := by rw [← hrl.out]; exact rl_bad hlt h (by omega)
          rw [h] at HC
          clear h hrl
          go_wp2_with fail
          refine HC.mono ?_
          unfold ans
          rintro e w2 ⟨rfl, rfl⟩
          clear HC
          go_wp2
          go_ret3
          unfold IsNums
          rw [HR.out]
          exact ⟨_, rfl, World.ownsRow_nil _ _ _ _, hbel⟩
      · have HR : Hid (readList readNum bs = (l, p, 0)) := by rw [← hrl.out, show n - k = 0 by omega]; rfl
        clear hrl
        go_wp2
        go_ret3
        unfold IsNums
        rw [HR.out]
        exact ⟨_, rfl, hown, hbel⟩
  · have HE : Hid (readList readNum bs = ([], 0, er)) := mkH (by unfold readList; rw [h3]; rcases h1 with rfl | rfl | rfl <;> simp)
    rw [h3] at H
    clear h3 hr
    rcases h1 with rfl | rfl | rfl
    all_goals
      go_enter Try.func17, Try.ntmps17
      go_wp2_with fail
      refine H.mono ?_
      unfold ans
      rintro e w1 ⟨rfl, rfl⟩
      clear H
      go_wp2
      go_ret3
      unfold IsNums
      rw [HE.out]
      exact ⟨_, rfl, World.ownsRow_nil _ _ _ _, Below.refl _ _⟩

set_option maxHeartbeats 400000 in
set_option maxRecDepth 20000 in
theorem readNums_any (w : World) (ao : Option Addr) (cap : Nat) (bs : List UInt8) (hr : Row w ao bs) (hlen : bs.length ≤ 1000000000) (hcap : bs.length ≤ cap) (hc63 : cap ≤ 9223372036854775807) :
    Calls Try.prog 10 #[.slice ao bs.length cap] w fun e w' => IsNums w.heap.size (readList readNum bs) w e w' := by
  go_enter Try.func10, Try.ntmps10
  go_wp2_with fail
  refine (readList_any w ao cap bs hr hlen hcap hc63).mono ?_
  rintro e w1 ⟨v, rfl, hown, hb⟩
  go_wp2
  go_ret3
  exact ⟨v, rfl, hown, hb⟩
end Go.Proofs.Ytionomjmebnjaab.Li
