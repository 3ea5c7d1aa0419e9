/-
  Lists of texts compared: slices.Equal, and the document's SameTexts; receipts compared.
-/
import Derived.Test.YtenkgpfeifflnaaGreatWiE
import Derived.BigQuiet
namespace Go.Proofs.YtenkgpfeifflnaaGreat.Wn
open Go.RowKit Kt Pl Wi Wk We
open At (RowT)
set_option linter.unusedVariables false
set_option linter.unusedSimpArgs false
set_option maxRecDepth 20000

theorem S_inj {a b : Bs} (h : S a = S b) : a = b := by have := congrArg (fun s => s.data.toList) h; exact this
theorem take_eq_succ {l m : List Bs} {k : Nat} {x y : Bs} (hx : l[k]? = some x) (hy : m[k]? = some y) (h : l.take k = m.take k) (e : x = y) : l.take (k + 1) = m.take (k + 1) := by
  rw [List.take_add_one, List.take_add_one, hx, hy, h, e]
theorem ne_of_at {l m : List Bs} {k : Nat} {x y : Bs} (hx : l[k]? = some x) (hy : m[k]? = some y) (e : x ≠ y) : l ≠ m := fun h => e (by rw [h, hy] at hx; exact (Option.some.inj hx).symm)

set_option maxHeartbeats 2000000 in
theorem sameTexts_any (w : World) (ao bo : Option Addr) (acap bcap : Nat) (l m : List Bs) (hl : RowT w ao l) (hm : RowT w bo m) (h1 : l.length ≤ 1000000) (h2 : m.length ≤ 1000000) :
    Calls Tryz.prog 20 #[.slice ao l.length acap, .slice bo m.length bcap] w fun e w' => e = .returned (.bool (decide (l = m))) ∧ Gr w w' := by
  by_cases hlen : l.length = m.length
  · have c1 : ((l.length : Int) == (m.length : Int)) = true := by simp [hlen]
    have HLM := mkH hlen
    clear hlen
    go_enter Tryz.func20, Tryz.ntmps20
    go_wp2
    clear c1
    go_loopw [5] (fun i wr => ∃ k : Nat, k ≤ l.length ∧ i = .int .i64 k ∧ Hid (l.take k = m.take k) ∧ Hid (Gr w wr)) (fun i _ => l.length - (intOf i).toNat)
    case atStart => exact ⟨0, Nat.zero_le _, rfl, mkH (by simp), mkH (Gr.refl _)⟩
    case round =>
      obtain ⟨k, hk, rfl, HT, HG⟩ := hrel
      by_cases hlt : k < l.length
      · have hlt2 : k < m.length := by have := HLM.out; omega
        obtain ⟨b, off, hao, hcl⟩ := (RowT.gr hl HG.out) (by omega)
        obtain ⟨b2, off2, hbo, hcm⟩ := (RowT.gr hm HG.out) (by omega)
        obtain ⟨x, hx⟩ : ∃ x, l[k]? = some x := ⟨_, List.getElem?_eq_getElem hlt⟩
        obtain ⟨y, hy⟩ : ∃ y, m[k]? = some y := ⟨_, List.getElem?_eq_getElem hlt2⟩
        have hck : ∀ n, (wr.drewN n).cell? ⟨b, off + k, none⟩ = some (.string (S x)) := fun n => by have := hcl k hlt; rw [getD_of hx] at this; exact this
        have hcm2 : ∀ n, (wr.drewN n).cell? ⟨b2, off2 + k, none⟩ = some (.string (S y)) := fun n => by have := hcm k hlt2; rw [getD_of hy] at this; exact this
        subst hao hbo
        have i1 : (k : Int) < (l.length : Int) := by omega
        have i2 : (k : Int) < (m.length : Int) := by omega
        have i0 : (0 : Int) ≤ (k : Int) := by omega
        have HX := mkH hx
        have HY := mkH hy
        clear hcl hcm hx hy hl hm hlt2
        by_cases hxy : x = y
        · have HN := mkH (take_eq_succ HX.out HY.out HT.out hxy)
          subst hxy
          clear HT HX HY
          go_wp2_with fail
          go_quiet (fail)
          have HG2 := mkH (HG.out.drewN nq)
          clear hck hcm2 HG
          go_wp2
          go_roundw
          case rel => exact ⟨k + 1, by omega, by go_num, HN, HG2⟩
          case measure => simp [intOf]; omega
        · have HN := mkH (ne_of_at HX.out HY.out hxy)
          have q1 : ((S x).toList == (S y).toList) = false := by rw [S_toList, S_toList]; simpa using hxy
          clear hxy HT HX HY
          go_wp2_with fail
          go_quiet (fail)
          have HG2 := mkH (HG.out.drewN nq)
          clear hck hcm2 HG
          go_wp2
          go_ret
          exact ⟨ret_bool (by simpa using HN.out), HG2.out⟩
      · have HN : Hid (l = m) := mkH (by have := HT.out; rwa [List.take_of_length_le (by omega), List.take_of_length_le (by have := HLM.out; omega)] at this)
        clear HT
        go_wp2
        go_ret
        exact ⟨ret_bool (by simpa using HN.out), HG.out⟩
  · have c1 : ((l.length : Int) == (m.length : Int)) = false := by simp; omega
    have HN : Hid (l ≠ m) := mkH (fun h => hlen (by rw [h]))
    clear hlen hl hm
    go_enter Tryz.func20, Tryz.ntmps20
    go_wp2
    go_ret
    exact ⟨ret_bool (by simpa using HN.out), Gr.refl _⟩

theorem eqlRc (a b : Rcp) (w : World) : Sem.run Tryz.prog (binOp .eql 41 (.agg #[.int .i64 a.q, .string (S a.g), .int .i64 a.s, .int .i64 a.c]) (.agg #[.int .i64 b.q, .string (S b.g), .int .i64 b.s, .int .i64 b.c])) w = .ok (.bool (decide (a.q = b.q ∧ a.g = b.g ∧ a.s = b.s ∧ a.c = b.c))) w := by
  have u3 := Tryz.underlying3
  have a3 := Tryz.isAgg3
  have z3 := Tryz.sizeOf3
  have u9 := Tryz.underlying9
  have a9 := Tryz.isAgg9
  have z9 := Tryz.sizeOf9
  have hS : Tryz.prog.underlying 41 = some (.struct (Tryz.prog.fieldsOf 41)) := by kernel_rfl
  have hp : Tryz.prog.stoodInHeld 41 = false := by kernel_rfl
  rw [run_eql_struct, show (10000 : Nat) = 9999 + 1 from rfl, run_equalIn_agg w 9999 41 _ _ hS hp]
  simp only [Program.fieldsOf, Tryz.underlying41]
  have hg : ((S a.g).toList == (S b.g).toList) = decide (a.g = b.g) := by rw [S_toList, S_toList, Bool.eq_iff_iff]; simp
  by_cases h1 : a.q = b.q <;> by_cases h2 : a.g = b.g <;> by_cases h3 : a.s = b.s <;> by_cases h4 : a.c = b.c
  all_goals
    simp only [h1, h2, h3, h4, decide_true, decide_false] at hg ⊢
    go_simp
    try simp

theorem guardRc (op : BinOp) (x y : Operand) (a b : Array Value) (w : World) : Sem.run Tryz.prog (eqGuard op 41 x y (.agg a) (.agg b)) w = .ok () w :=
  run_eqGuard_agg w op 41 x y _ _ (by kernel_rfl)
end Go.Proofs.YtenkgpfeifflnaaGreat.Wn
