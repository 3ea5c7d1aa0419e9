/-
  The contracts of Token and 'works'.
-/
import Derived.Test.YtcpmaddleleblaaDoorDgH
namespace Go.Proofs.YtcpmaddleleblaaDoor.Di
open Go.RowKit Kt Dk Dw Ds Dt De Df Dg Dh
set_option linter.unusedVariables false
set_option maxRecDepth 20000

def hx : List UInt8 := [48, 49, 50, 51, 52, 53, 54, 55, 56, 57, 97, 98, 99, 100, 101, 102]
def two (x : UInt8) : List UInt8 := [hx.getD (x.toNat / 16) 0, hx.getD (x.toNat % 16) 0]
def tk (d : List UInt8) (k : Nat) : List UInt8 := ((d.take k).map two).flatten
def tok (bs : List UInt8) : List UInt8 := tk (Dp.dig bs) 16
theorem tk_succ (d : List UInt8) (k : Nat) (hk : k < d.length) : tk d (k + 1) = tk d k ++ two (d.getD k 0) := by
  unfold tk
  rw [List.take_succ_eq_append_getElem hk, List.map_append, List.flatten_append]
  simp only [List.map_cons, List.map_nil, List.flatten_cons, List.flatten_nil, List.append_nil, List.getD, List.getElem?_eq_getElem hk, Option.getD_some]
theorem tk_length (d : List UInt8) : ∀ k, k ≤ d.length → (tk d k).length = 2 * k
  | 0, _ => rfl
  | k + 1, hk => by rw [tk_succ d k (by omega), List.length_append, tk_length d k (by omega)]; simp [two]; omega
theorem tok_length (bs : List UInt8) : (tok bs).length = 32 := tk_length _ 16 (by rw [Dp.dig_length]; omega)
theorem hx_run (w : World) (q : Nat) (hq : q < 16) (i : Int) (hi : i = (q : Int)) : (Instr.index 9 (.string ⟨#[48, 49, 50, 51, 52, 53, 54, 55, 56, 57, 97, 98, 99, 100, 101, 102]⟩) (.int .u8 i)).run Tryd.prog w = .ok (.int .u8 ((hx.getD q 0).toNat : Int)) w := by
  subst hi
  obtain h | h | h | h | h | h | h | h | h | h | h | h | h | h | h | h : q = 0 ∨ q = 1 ∨ q = 2 ∨ q = 3 ∨ q = 4 ∨ q = 5 ∨ q = 6 ∨ q = 7 ∨ q = 8 ∨ q = 9 ∨ q = 10 ∨ q = 11 ∨ q = 12 ∨ q = 13 ∨ q = 14 ∨ q = 15 := by omega
  all_goals
    subst h
    simp [Instr.index, asIntOf, run_underlying Tryd.underlying9]
    rfl
theorem put2 (C : Array Value) (o : Nat) (v0 v1 : Value) (h : o + 2 ≤ C.size) : (C.setIfInBounds o v0).setIfInBounds (o + 1) v1 = splice C o [v0, v1] := by
  apply Array.ext_getElem?
  intro i
  simp only [splice, List.getElem?_toArray, Array.getElem?_setIfInBounds, Array.size_setIfInBounds, List.length_cons, List.length_nil]
  simp only [List.append_assoc, List.getElem?_append, List.length_take, Array.length_toList, List.length_cons, List.length_nil, show min o C.size = o by omega, List.getElem?_take, List.getElem?_drop, Array.getElem?_toList]
  by_cases h1 : i < o
  · simp [h1, show o + 1 ≠ i by omega, show o ≠ i by omega]
  · by_cases h2 : i < o + 2
    · obtain h | h : i = o ∨ i = o + 1 := by omega
      · subst h; simp [show i < C.size by omega]
      · subst h; simp [show o + 1 < C.size by omega, show ¬ (o + 1 < o) by omega]
    · simp [h1, show o + 1 ≠ i by omega, show o ≠ i by omega, show ¬ (i - o < 2) by omega, show o + 2 + (i - o - 2) = i by omega]

/-- Where Token stands: the digest's block, and the digits so far. -/
def To (w W : World) (A B : Nat) (d : List UInt8) (k : Nat) : Prop :=
  Below w.heap.size w W ∧ W.heap[A]? = some (.cells (U d).toArray 130 (0, 0)) ∧ ∃ C : Array Value, Pu C (tk d k) ∧ W.heap[B]? = some (.cells C 130 (0, 0))

theorem row_of_block {w : World} {b : Nat} {l : List UInt8} {T : TypeId} {fr : Nat × Nat} (h : w.heap[b]? = some (.cells (U l).toArray T fr)) : Row w (some ⟨b, 0, none⟩) l := by
  intro _
  refine ⟨b, 0, rfl, fun i hi => ?_⟩
  rw [Nat.zero_add, cell_of_row _ _ _ _ _ _ h, List.getElem?_toArray, U_at l i hi]

set_option maxHeartbeats 4000000 in
theorem token_any (w : World) (ao : Option Addr) (cap : Nat) (bs : List UInt8) (hT : Tb w) (hr : Row w ao bs) (hao : ∀ a, ao = some a → a.block < w.heap.size) (hn : bs.length ≤ 100000) (hc : bs.length ≤ cap) (hc2 : cap ≤ 9223372036854775807) :
    Calls Tryd.prog 58 #[.slice ao bs.length cap] w fun e w' => e = .returned (.string (S (tok bs))) ∧ Below w.heap.size w w' := by
  have HOF := mkH (of_any w ao cap bs hT hr hao hn hc hc2)
  have hdl : (U (Dp.dig bs)).length = 32 := by rw [U_length, Dp.dig_length]
  have hi32 : (Tryd.prog.info? 130).map (·.size) = some (U (Dp.dig bs)).length := by rw [hdl]; kernel_rfl
  have HI := mkH hi32
  have HDL := mkH hdl
  clear hi32 hdl hT hr hao
  go_enter Tryd.func58, Tryd.ntmps58
  go_wp2_with fail
  refine HOF.out.mono ?_
  rintro e w1 ⟨rfl, hb1⟩
  clear HOF
  have hh := fun W b => run_arr_high (P := Tryd.prog) W 130 5 32 Tryd.underlying130 (by kernel_rfl) (by decide) b 0 16 16 rfl (by decide)
  go_wp2_with (first
    | (have hx := hZ; clear hx; refine wpList_alloc_agg rfl 130 rfl 32 (by kernel_rfl) ?_; intro Z2 hZ2)
    | (refine wpList_alloc_agg rfl 130 rfl 32 (by kernel_rfl) ?_; intro Z hZ)
    | (refine wpList_store_new rfl 130 (.tmp 3) (.tmp 8) rfl w1 Z rfl (U (Dp.dig bs)) rfl HI.out (by rw [hZ, HDL.out]) (U_one _) ?_))
  have hTo : To w ((w1.alloc (.cells (U (Dp.dig bs)).toArray 130)).alloc (.cells Z2 130)) w1.heap.size (w1.heap.size + 1) (Dp.dig bs) 0 := by
    refine ⟨(hb1.alloc hb1.size _).alloc (by have := hb1.size; simp; omega) _, ?_, Z2, ⟨hZ2, rfl⟩, ?_⟩
    · rw [Below.heap_alloc _ _ _ (by simp)]; exact heap_alloc_new _ _
    · have := heap_alloc_new (w1.alloc (.cells (U (Dp.dig bs)).toArray 130)) (.cells Z2 130)
      rwa [World.size_alloc] at this
  have hwA := hb1.size
  generalize (w1.alloc (.cells (U (Dp.dig bs)).toArray 130)).alloc (.cells Z2 130) = W2 at hTo ⊢
  generalize w1.heap.size = A at hTo hwA ⊢
  have HTK : Hid (tok bs = tk (Dp.dig bs) 16) := rfl
  have hdl : (Dp.dig bs).length = 32 := Dp.dig_length bs
  have HLD := mkH hdl
  clear hh hb1 hZ hZ2 HI HDL hdl
  generalize Dp.dig bs = d at hTo HTK HLD ⊢
  go_loopw [11] (fun i W => ∃ k : Nat, k ≤ 16 ∧ i = .int .i64 k ∧ To w W A (A + 1) d k) (fun i _ => 16 - (intOf i).toNat)
  case atStart => exact ⟨0, by omega, rfl, hTo⟩
  case round =>
    clear hTo
    obtain ⟨k, hk, rfl, hTo⟩ := hrel
    obtain ⟨hb, hA, Cr, hp, hB⟩ := hTo
    by_cases hlt : k = 16
    · have t0 : decide ((k : Int) < 16) = false := by simp; omega
      subst hlt
      have hCe := hp.all (tk_length d 16 (by rw [HLD.out]; omega))
      subst hCe
      have hst := run_string (P := Tryd.prog) (w := wr) (src := 76) (dst := 9) (e := 5) Tryd.underlying76 Tryd.underlying5 Tryd.underlying9 (row_of_block hB) 32
      rw [tk_length d 16 (by rw [HLD.out]; omega)] at hst
      have hal := run_arr_all (P := Tryd.prog) wr 130 5 32 Tryd.underlying130 (by kernel_rfl) (by decide) (A + 1) 0
      have HB := mkH hb
      clear hp hA hB hb
      go_wp2
      go_ret
      rw [HTK.out]
      exact ⟨rfl, HB.out⟩
    · have t0 : decide ((k : Int) < 16) = true := by simp; omega
      have hk0 : (k : Int) < 16 := by omega
      have hk1 : k < 16 := by omega
      have cA : wr.cell? ⟨A, k, none⟩ = some (.int .u8 ((d.getD k 0).toNat : Int)) := by
        rw [cell_of_row _ _ _ _ _ _ hA, List.getElem?_toArray, U_at d k (by rw [HLD.out]; omega)]
      have hCs := hp.1
      obtain ⟨v0, c0⟩ : ∃ v, wr.cell? ⟨A + 1, 2 * k, none⟩ = some v := ⟨_, by rw [cell_of_row _ _ _ _ _ _ hB]; exact Array.getElem?_eq_getElem (by omega)⟩
      obtain ⟨v1, c1⟩ : ∃ v, wr.cell? ⟨A + 1, 2 * k + 1, none⟩ = some v := ⟨_, by rw [cell_of_row _ _ _ _ _ _ hB]; exact Array.getElem?_eq_getElem (by omega)⟩
      have hf : ∀ j, wr.frozen? ⟨A + 1, j, none⟩ = false := fun j => by simp [World.frozen?, hB]
      have hwl := tk_length d k (by rw [HLD.out]; omega)
      have hnx := hp.next (two (d.getD k 0)) (by rw [hwl]; simp [two]; omega)
      rw [← tk_succ d k (by rw [HLD.out]; omega), hwl] at hnx
      have HNX : Hid (To w ((wr.setCell ⟨A + 1, 2 * k, none⟩ (.int .u8 ((hx.getD ((d.getD k 0).toNat / 16) 0).toNat : Int))).setCell ⟨A + 1, 2 * k + 1, none⟩ (.int .u8 ((hx.getD ((d.getD k 0).toNat % 16) 0).toNat : Int))) A (A + 1) d (k + 1)) := by
        unfold Hid
        rw [setCell_eq_setRow wr (A + 1) (2 * k) Cr _ (0, 0) _ hB, setCell_eq_setRow _ (A + 1) (2 * k + 1) _ _ (0, 0) _ (setRow_heap wr (A + 1) Cr _ _ (0, 0) hB), setRow_setRow, put2 Cr (2 * k) _ _ (by omega)]
        exact ⟨below_setRow hb (by omega) _, by rw [setRow_other _ _ _ _ (by omega)]; exact hA, _, hnx, setRow_heap _ _ _ _ _ _ hB⟩
      have hxl := (d.getD k 0).toNat_lt
      generalize (d.getD k 0).toNat = x at cA HNX hxl
      have h1 := fun W => hx_run W (x / 16) (by omega) ((x : Int) / 16) (by omega)
      have h2 := fun W => hx_run W (x % 16) (by omega) ((x : Int) % 16) (by omega)
      have hl1 := (hx.getD (x / 16) 0).toNat_lt
      have hl2 := (hx.getD (x % 16) 0).toNat_lt
      generalize (hx.getD (x / 16) 0).toNat = X1 at h1 HNX hl1
      generalize (hx.getD (x % 16) 0).toNat = X2 at h2 HNX hl2
      clear hp hA hB hb hnx hwl
      go_wp2_with fail
      refine ⟨?rel, ?measure⟩
      case rel => exact ⟨k + 1, by omega, by go_num, HNX.out⟩
      case measure => simp [intOf]; omega

theorem cell_new_atF (W : World) (cs : Array Value) (t : TypeId) (fr : Nat × Nat) (j : Nat) (v : Value) (h : cs[j]? = some v) : (W.alloc (.cells cs t fr)).cell? ⟨W.heap.size, j, none⟩ = some v := by
  have h1 := heap_alloc_new W (.cells cs t fr)
  simp only [World.cell?, h1]; exact h
theorem row_newF (W : World) (cs : Array Value) (t : TypeId) (fr : Nat × Nat) (bs : List UInt8) (h : cs = (U bs).toArray) : Row (W.alloc (.cells cs t fr)) (some ⟨W.heap.size, 0, none⟩) bs := by
  intro _
  refine ⟨_, 0, rfl, fun i hi => ?_⟩
  rw [Nat.zero_add]
  refine cell_new_atF W cs t fr i _ ?_
  rw [h]
  have := U_at bs i hi
  simpa using this

theorem tok_abc : tok [97, 98, 99] = [98, 97, 55, 56, 49, 54, 98, 102, 56, 102, 48, 49, 99, 102, 101, 97, 52, 49, 52, 49, 52, 48, 100, 101, 53, 100, 97, 101, 50, 50, 50, 51] := by
  unfold tok tk
  rw [Dp.dig_abc]
  decide
end Go.Proofs.YtcpmaddleleblaaDoor.Di
