/-
  The contracts of the small functions: word, addWord, bytes.Clone, few; the document's put.
-/
import Derived.Test.YthmedpabgblddabGreatDoorCrcS
import Derived.BigQuiet
namespace Go.Proofs.YthmedpabgblddabGreatDoor.Cw
open Go.RowKit Kt Cs
set_option linter.unusedVariables false

theorem info5 : (Tryz.prog.info? 5).map (fun i => (i.zero, i.size, i.bytes)) = some (some (.int .u8 0), 1, 1) := by kernel_rfl

theorem cell_new_at (W : World) (cs : Array Value) (t : TypeId) (j : Nat) (v : Value) (h : cs[j]? = some v) : (W.alloc (.cells cs t)).cell? ⟨W.heap.size, j, none⟩ = some v := by
  have h1 := heap_alloc_new W (.cells cs t)
  simp only [World.cell?, h1]; exact h
/-- New bytes, laid in a block of their own. -/
theorem row_new (W : World) (cs : Array Value) (t : TypeId) (bs : List UInt8) (h : cs = (U bs).toArray) : Row (W.alloc (.cells cs t)) (some ⟨W.heap.size, 0, none⟩) bs := by
  intro _
  refine ⟨_, 0, rfl, fun i hi => ?_⟩
  rw [Nat.zero_add]
  refine cell_new_at W cs t i _ ?_
  rw [h]
  have := U_at bs i hi
  simpa using this
set_option maxRecDepth 20000 in
theorem U_put {x : Nat} (h : x < 4294967296) : U (Cp.put x) = [.int .u8 ((x : Int) % 256), .int .u8 ((x : Int) / 256 % 256), .int .u8 ((x : Int) / 65536 % 256), .int .u8 ((x : Int) / 16777216)] := by
  have h1 : ((x / 16777216 % 256 : Nat) : Int) = (x : Int) / 16777216 := by omega
  have h2 : ((x / 65536 % 256 : Nat) : Int) = (x : Int) / 65536 % 256 := by omega
  have h3 : ((x / 256 % 256 : Nat) : Int) = (x : Int) / 256 % 256 := by omega
  have h4 : ((x % 256 : Nat) : Int) = (x : Int) % 256 := by omega
  simp only [U, Cp.put, List.map_cons, List.map_nil, Cp.ofNat_mod]
  rw [h1, h2, h3, h4]

theorem or_word {a b c d : Nat} (ha : a < 256) (hb : b < 256) (hc : c < 256) (hd : d < 256) :
    bits .or .u32 (bits .or .u32 (bits .or .u32 (a : Int) ((b : Int) * 256)) ((c : Int) * 65536)) ((d : Int) * 16777216) = ((a + b * 256 + c * 65536 + d * 16777216 : Nat) : Int) := by
  have h1 : a ||| b * 256 = a + b * 256 := by
    have := Nat.two_pow_add_eq_or_of_lt (i := 8) (b := a) (by omega) b
    rw [Nat.or_comm, Nat.mul_comm b 256, show (256 : Nat) = 2 ^ 8 by rfl, ← this]; omega
  have h2 : (a + b * 256) ||| c * 65536 = a + b * 256 + c * 65536 := by
    have := Nat.two_pow_add_eq_or_of_lt (i := 16) (b := a + b * 256) (by omega) c
    rw [Nat.or_comm, Nat.mul_comm c 65536, show (65536 : Nat) = 2 ^ 16 by rfl, ← this]; omega
  have h3 : (a + b * 256 + c * 65536) ||| d * 16777216 = a + b * 256 + c * 65536 + d * 16777216 := by
    have := Nat.two_pow_add_eq_or_of_lt (i := 24) (b := a + b * 256 + c * 65536) (by omega) d
    rw [Nat.or_comm, Nat.mul_comm d 16777216, show (16777216 : Nat) = 2 ^ 24 by rfl, ← this]; omega
  rw [show (b : Int) * 256 = ((b * 256 : Nat) : Int) by omega, show (c : Int) * 65536 = ((c * 65536 : Nat) : Int) by omega, show (d : Int) * 16777216 = ((d * 16777216 : Nat) : Int) by omega, u32_or_nat _ _ (by omega) (by omega), h1, u32_or_nat _ _ (by omega) (by omega), h2, u32_or_nat _ _ (by omega) (by omega), h3]

set_option maxHeartbeats 1000000 in
set_option maxRecDepth 20000 in
theorem word_any (w : World) (ao : Option Addr) (cap : Nat) (bs : List UInt8) (hr : Row w ao bs) (h4 : 4 ≤ bs.length) (hl : bs.length ≤ 1000000000) :
    Calls Tryz.prog 84 #[.slice ao bs.length cap] w fun e w' => e = .returned (.int .u32 (Cp.word bs : Nat)) ∧ ∃ n, w' = w.drewN n := by
  obtain ⟨b, off, rfl, hc⟩ := hr (by omega)
  have c0 := hc 0 (by omega)
  have c1 := hc 1 (by omega)
  have c2 := hc 2 (by omega)
  have c3 := hc 3 (by omega)
  have HE : Hid (Cp.word bs = (bs.getD 0 0).toNat + (bs.getD 1 0).toNat * 256 + (bs.getD 2 0).toNat * 65536 + (bs.getD 3 0).toNat * 16777216) := rfl
  have l0 := Cp.u8_lt (bs.getD 0 0)
  have l1 := Cp.u8_lt (bs.getD 1 0)
  have l2 := Cp.u8_lt (bs.getD 2 0)
  have l3 := Cp.u8_lt (bs.getD 3 0)
  generalize (bs.getD 0 0).toNat = x0 at *
  generalize (bs.getD 1 0).toNat = x1 at *
  generalize (bs.getD 2 0).toNat = x2 at *
  generalize (bs.getD 3 0).toNat = x3 at *
  rw [Nat.add_zero] at c0
  clear hc hr
  go_enter Tryz.func84, Tryz.ntmps84
  go_wp2_with fail
  go_quiet (fail)
  go_wp2
  go_ret
  exact ⟨by rw [HE.out, ← or_word l0 l1 l2 l3]; rfl, _, rfl⟩

set_option maxHeartbeats 400000 in
set_option maxRecDepth 20000 in
theorem addWord_any (w : World) (base : Nat) (v : Value) (m x : Nat) (bs : List UInt8) (hown : w.ownsRow base 5 1 v m (U bs)) (hb : base ≤ w.heap.size) (hm : m ≤ 3000000000) (hx : x < 4294967296) :
    Calls Tryz.prog 63 #[v, .int .u32 x] w fun e w' => ∃ v', e = .returned v' ∧ w'.ownsRow base 5 1 v' (m + 4) (U (bs ++ Cp.put x)) ∧ Below base w w' := by
  have hU : Hid _ := U_put hx
  go_enter Tryz.func63, Tryz.ntmps63
  go_wp2_with (at_builtin; refine (wpList_append_own_src _ rfl (.tmp 5) (.tmp 17) 30 30 rfl base 5 (.int .u8 0) 1 1 Tryz.underlying30 info5 rfl (by decide) _ m (U bs) rfl (hown.alloc _) _ 4 (U (Cp.put x)) rfl (Row.src (bs := Cp.put x) Tryz.underlying30 (row_new _ _ _ _ ?hx) _) ?h63 ?hby ?hbs ?_))
  case hx => rw [hU.out]
  case h63 => unfold maxLen; omega
  case hby => omega
  case hbs => simp; omega
  intro v2 w2 hown2 hgrow2
  have hbel2 := below_own (hown.alloc _) hgrow2 ((Below.refl base w).alloc hb _) (by simp; omega)
  rw [← U_append] at hown2
  clear hown hgrow2 hU
  go_wp2
  go_ret
  exact ⟨v2, rfl, hown2, hbel2⟩

theorem eql_nil {P : Program} (w : World) (t e : TypeId) (a : Option Addr) (l c : Nat) (h : P.underlying t = some (.slice e)) : (binOp .eql t (.slice a l c) (.slice none 0 0)).run P w = .ok (.bool a.isNone) w := by
  have h1 : ∀ d, (Op.equalIn (d + 1) t (.slice a l c) (.slice none 0 0)).run P w = .ok a.isNone w := fun d => by cases a <;> simp [Op.equalIn, run_underlying h]
  have h2 : (Op.equal t (.slice a l c) (.slice none 0 0)).run P w = .ok a.isNone w := h1 9999
  simp only [binOp]
  simp [h2]

set_option maxHeartbeats 400000 in
set_option maxRecDepth 20000 in
theorem clone_any (w : World) (ao : Option Addr) (cap : Nat) (bs : List UInt8) (hr : Row w ao bs) (hl : bs.length ≤ 1000000000) :
    Calls Tryz.prog 75 #[.slice ao bs.length cap] w fun e w' => ∃ v, e = .returned v ∧ w'.ownsRow w.heap.size 5 1 v bs.length (U bs) ∧ Below w.heap.size w w' := by
  cases ao with
  | none =>
    have h0 : bs = [] := by
      rcases Nat.eq_zero_or_pos bs.length with h | h
      · exact List.eq_nil_of_length_eq_zero h
      · obtain ⟨b, off, e, _⟩ := hr h; cases e
    subst h0
    have hq := eql_nil (P := Tryz.prog) w 30 5 none 0 cap Tryz.underlying30
    simp only [Option.isNone] at hq
    go_enter Tryz.func75, Tryz.ntmps75
    go_wp2
    go_ret
    exact ⟨_, rfl, by simpa [U] using World.ownsRow_nil w _ _ _, Below.refl _ _⟩
  | some a =>
    have hq := eql_nil (P := Tryz.prog) w 30 5 (some a) bs.length cap Tryz.underlying30
    simp only [Option.isNone] at hq
    go_enter Tryz.func75, Tryz.ntmps75
    go_wp2_with (at_builtin; refine (wpList_append_own_src _ rfl (.tmp 5) (.tmp 6) 30 30 rfl w.heap.size 5 (.int .u8 0) 1 1 Tryz.underlying30 info5 rfl (by decide) _ 0 [] rfl (World.ownsRow_made w #[] 0 (Nat.le_refl _) (Nat.zero_le _) rfl) _ bs.length (U bs) rfl ?hsrc2 ?h632 ?hby2 ?hbs2 ?_))
    case hsrc2 => exact Row.src (P := Tryz.prog) Tryz.underlying30 (hr.below ((Below.refl w.heap.size w).alloc (Nat.le_refl _) (.cells #[] 5))) cap
    case h632 => unfold maxLen; omega
    case hby2 => omega
    case hbs2 => simp
    intro v2 w2 hown2 hgrow2
    have hbel := below_own (World.ownsRow_made (e := 5) (size := 1) w #[] 0 (Nat.le_refl _) (Nat.zero_le _) rfl) hgrow2 ((Below.refl w.heap.size w).alloc (Nat.le_refl _) (.cells #[] 5)) (by simp)
    have hown3 : w2.ownsRow w.heap.size 5 1 v2 bs.length (U bs) := by simpa using hown2
    clear hown2 hgrow2 hr
    go_wp2
    go_ret
    exact ⟨v2, rfl, hown3, hbel⟩

theorem Row_take {w : World} {ao : Option Addr} {bs : List UInt8} (h : Row w ao bs) (k : Nat) : Row w ao (bs.take k) := by
  intro hl
  rw [List.length_take] at hl
  obtain ⟨b, off, e, hc⟩ := h (by omega)
  refine ⟨b, off, e, fun i hi => ?_⟩
  rw [List.length_take] at hi
  rw [hc i (by omega)]
  simp [show i < k by omega]
/-- 'b[k:]', its address as the walk writes it. -/
theorem Row_drop {w : World} {ao : Option Addr} {bs : List UInt8} (h : Row w ao bs) {k cap : Nat} (hc : bs.length ≤ cap) : Row w (if cap = k then ao else Option.map (fun x => x.add k) ao) (bs.drop k) := by
  intro hl
  rw [List.length_drop] at hl
  obtain ⟨b, off, e, hcl⟩ := h (by omega)
  rw [if_neg (by omega), e]
  refine ⟨b, off + k, by simp [Addr.add], fun i hi => ?_⟩
  rw [List.length_drop] at hi
  rw [Nat.add_assoc, hcl (k + i) (by omega)]
  simp

/-- The document's put: what of the four bytes is to come. -/
def putK (x : Nat) : Nat → List UInt8
  | 0 => []
  | k + 1 => putK x k ++ [UInt8.ofNat (x / 256 ^ k % 256)]
theorem putK_len (x k : Nat) : (putK x k).length = k := by
  induction k with
  | zero => rfl
  | succ k ih => simp [putK, ih]
theorem putK_four (x : Nat) : putK x 4 = Cp.put x := by simp [putK, Cp.put]
theorem put_byte (y : Nat) : (y : Int).tmod 256 = ((UInt8.ofNat (y % 256)).toNat : Int) := by
  rw [Cp.ofNat_mod, Int.tmod_eq_emod_of_nonneg (by omega)]; omega
theorem put_quo (y : Nat) : (y : Int).tdiv 256 = ((y / 256 : Nat) : Int) := by
  rw [Int.tdiv_eq_ediv_of_nonneg (by omega)]; omega
end Go.Proofs.YthmedpabgblddabGreatDoor.Cw
