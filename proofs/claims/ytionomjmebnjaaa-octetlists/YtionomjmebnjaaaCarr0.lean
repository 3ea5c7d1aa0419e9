/-
  For OctetCarries: append as a step of a region that draws its order; SameTexts at like lists; the plain facts on what is read and cut.
-/
import Derived.Test.YtionomjmebnjaaaListsT
import Derived.Test.YtionomjmebnjaaaAddT
import Derived.Deep.QuietTactic
import Derived.BigQuiet
import Derived.Deep.RegionHeld3
import Derived.Deep.RegionLaw
namespace Go.Proofs.Ytionomjmebnjaaa.Ca
open Go.RowKit Kt Pl Rd Wr Fw Lt At
set_option linter.unusedVariables false

theorem step_append_own_src {P : Program} {ops : Array Oper} {o : Oper} {a : Act} {w : World} {K : Act → World → Prop} {Q : Exit → Act → World → Prop} {E : Prop}
    (hg : o.guard = none) (s x : Operand) (t tx : TypeId) (hop : o.op = Op.call { callee := Callee.builtin Builtin.append, args := #[s, x], argTypes := #[t, tx] })
    (base : Nat) (e : TypeId) (z : Value) (size bytes : Nat) (ht : P.underlying t = some (.slice e)) (hinfo : (P.info? e).map (fun i => (i.zero, i.size, i.bytes)) = some (some z, size, bytes))
    (hzs : z.cells.size = size) (hsz : 0 < size)
    (v : Value) (n : Nat) (xs : List Value) (hs : a.eval s = v) (hown : w.ownsRow base e size v n xs)
    (xv : Value) (m : Nat) (news : List Value) (hx : a.eval x = xv) (hsrc : Src P size tx xv m news w)
    (h63 : n + m ≤ maxLen) (hbytes : (n + m) * bytes ≤ 140737488355328) (hbase : base ≤ w.heap.size)
    (hK : ∀ v' w', w'.ownsRow base e size v' (n + m) (xs ++ news) → w.grownBy w' v.ownBlock → K (a.put o.dst v') w') :
    if Region.wanted o (yielded ops a.tmps) = true then Oper.wp P o a w K Q else E := by
  obtain ⟨i, hi, hz, hsize, hby⟩ := info_parts hinfo
  have hw : Region.wanted o (yielded ops a.tmps) = true := by simp [Region.wanted, hg]
  rw [if_pos hw]
  obtain ⟨v', w', hr, h2, h3⟩ := run_append_own_src (P := P) w base t tx o.type e i z size bytes ht hi hz hsize hby hzs hsz v n xs hown xv m news hsrc h63 hbytes hbase
  unfold Oper.wp
  simp [execOp, hop, resolve, invoke, builtin, hs, hx, hr, Result.andThen]
  exact hK v' w' h2 h3

/-- A guard: this step is an append of these operands. -/
theorem atApp {P : Program} {ops : Array Oper} {o : Oper} {a : Act} {w : World} {K : Act → World → Prop} {Q : Exit → Act → World → Prop} {E : Prop} (s x : Operand) (t tx : TypeId)
    (hop : o.op = Op.call { callee := Callee.builtin Builtin.append, args := #[s, x], argTypes := #[t, tx] }) (h : if Region.wanted o (yielded ops a.tmps) = true then Oper.wp P o a w K Q else E) :
    if Region.wanted o (yielded ops a.tmps) = true then Oper.wp P o a w K Q else E := h

/-- 's[:len(s)]' and 's[:n]' of a string, in whatever world. -/
theorem slice_all {P : Program} {t : TypeId} (ht : P.underlying t = some .string) (s : ByteArray) (W : World) : (Instr.slice t (.string s) none (some (.int .i64 (s.size : Int))) none).run P W = .ok (.string s) W := by
  simp [Instr.slice, run_underlying ht, Instr.sliceBounds, run_sliceBound]
theorem slice_to {P : Program} {t : TypeId} (ht : P.underlying t = some .string) (s : ByteArray) (n : Nat) (hn : n ≤ s.size) (W : World) : (Instr.slice t (.string s) none (some (.int .i64 (n : Int))) none).run P W = .ok (.string (s.extract 0 n)) W := by
  simp [Instr.slice, run_underlying ht, Instr.sliceBounds, run_sliceBound, hn]

theorem src_valD {P : Program} {tx e' T : TypeId} (hk : P.underlying tx = some (.slice e')) (w : World) (u : Value) (h1 : u.oneCell' = true) :
    Src P 1 tx (.slice (some ⟨w.heap.size, 0, none⟩) 1 1) 1 [u] (w.alloc (.cells #[u] T)).drew := by
  refine Src.ofSlice _ hk _ _ 1 _ (by simp) (fun j x hj => ?_) (fun x hx => by rw [List.mem_singleton.1 hx]; exact h1)
  have hl : j = 0 := by
    rcases Nat.eq_zero_or_pos j with h | h
    · exact h
    · rw [List.getElem?_eq_none (by simp; omega)] at hj; cases hj
  subst hl
  simp at hj
  subst hj
  exact cell_one_new _ _ _ 0 _ rfl

theorem S_take (s : List UInt8) (n : Nat) : (S s).extract 0 n = S (s.take n) := by
  unfold S
  rw [ByteArray.extract_mk]
  simp

theorem RowT_drewN {w : World} {ao : Option Addr} {l : List (List UInt8)} (h : RowT w ao l) (n : Nat) : RowT (w.drewN n) ao l := h
theorem Row_drewN {w : World} {ao : Option Addr} {bs : List UInt8} (h : Row w ao bs) (n : Nat) : Row (w.drewN n) ao bs := h
theorem strN {P : Program} {w : World} {src dst e : TypeId} (hs : P.underlying src = some (.slice e)) (he : P.underlying e = some (.int .u8)) (hd : P.underlying dst = some .string)
    {ao : Option Addr} {bs : List UInt8} (h : Row w ao bs) (c : Nat) : ∀ nq, (convert src dst (.slice ao bs.length c)).run P (w.drewN nq) = .ok (.string (S bs)) (w.drewN nq) :=
  fun nq => run_string hs he hd (Row_drewN h nq) c

set_option maxHeartbeats 1000000 in
set_option maxRecDepth 20000 in
theorem same_any (w : World) (a1 a2 : Option Addr) (c1 c2 : Nat) (l : List (List UInt8)) (h1 : RowT w a1 l) (h2 : RowT w a2 l) (hl : l.length ≤ 1000000) :
    Calls Try.prog 28 #[.slice a1 l.length c1, .slice a2 l.length c2] w fun e w' => e = .returned (.bool true) ∧ ∃ n, w' = w.drewN n := by
  go_enter Try.func28, Try.ntmps28
  go_wp2
  go_loopw [5] (fun ct wr => ∃ k n : Nat, k ≤ l.length ∧ ct = .int .i64 k ∧ wr = w.drewN n) (fun ct _ => l.length - (intOf ct).toNat)
  case atStart => exact ⟨0, 0, Nat.zero_le _, rfl, rfl⟩
  case round =>
    obtain ⟨k, n, hk, rfl, rfl⟩ := hrel
    by_cases hlt : k < l.length
    · obtain ⟨b1, o1, rfl, hc1⟩ := h1 (by omega)
      obtain ⟨b2, o2, rfl, hc2⟩ := h2 (by omega)
      have hd1 := hc1 k hlt
      have hd2 := hc2 k hlt
      obtain ⟨s, hs⟩ : ∃ s, S (l.getD k []) = s := ⟨_, rfl⟩
      rw [hs] at hd1 hd2
      have hi : (k : Int) < (l.length : Int) := by omega
      have hi0 : (0 : Int) ≤ (k : Int) := by omega
      clear hs hc1 hc2 h1 h2
      go_wp2_with fail
      go_quiet (fail)
      go_wp2
      go_roundw
      case rel => exact ⟨k + 1, _, by omega, by go_num, rfl⟩
      case measure => simp [intOf]; omega
    · go_wp2
      go_ret
      exact ⟨rfl, n, rfl⟩

/-- The texts as the law cuts them. -/
def cutT (l : List (List UInt8)) (k : Nat) : List (List UInt8) := (l.take k).map fun s => s.take 200
theorem cutT_succ {l : List (List UInt8)} {k : Nat} {s : List UInt8} (h : l[k]? = some s) : cutT l (k + 1) = cutT l k ++ [s.take 200] := by
  obtain ⟨hk, rfl⟩ := List.getElem?_eq_some_iff.1 h
  unfold cutT
  rw [List.take_succ_eq_append_getElem hk, List.map_append]
  rfl
theorem cutT_len (l : List (List UInt8)) (k : Nat) : (cutT l k).length ≤ k := by unfold cutT; simp; omega
theorem cutT_mem {l : List (List UInt8)} {k : Nat} : ∀ x ∈ cutT l k, x.length ≤ 200 := by
  intro x hx
  obtain ⟨y, _, rfl⟩ := List.mem_map.1 hx
  rw [List.length_take]; omega

theorem texts_back {l : List (List UInt8)} (hl : l.length ≤ 1024) (hx : ∀ x ∈ l, x.length ≤ 4096) (rest : List UInt8) : readList readText (encList encText l ++ rest) = (l, (encList encText l).length, 0) :=
  readList_back hl (fun x hm rest => readText_back (hx x hm) rest) rest
theorem texts_cut {l : List (List UInt8)} (hl : l.length ≤ 1024) (hx : ∀ x ∈ l, x.length ≤ 4096) {k : Nat} (hk : k < (encList encText l).length) : readList readText ((encList encText l).take k) = ([], 0, 4) :=
  readList_cut hl (fun x hm rest => readText_back (hx x hm) rest) (fun x hm k hk => by rw [readText_cut (hx x hm) hk]) hk
theorem encList_pos {α : Type} (e : α → List UInt8) (l : List α) : 0 < (encList e l).length := by
  unfold encList; rw [List.length_append]; have := enc_len_pos l.length; omega
theorem encList_len {l : List (List UInt8)} (hl : l.length ≤ 1024) (hx : ∀ x ∈ l, x.length ≤ 4096) : (encList encText l).length ≤ 9 + 4105 * 1024 := by
  have := pre_len (l := l) (k := l.length) (Nat.le_refl _) hl (fun i x _ h => hx x (List.mem_of_getElem? h))
  rw [Ad.pre_all] at this
  omega
end Go.Proofs.Ytionomjmebnjaaa.Ca
