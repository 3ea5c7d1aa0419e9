/-
  What the laws of digest share: 'few', slices as they are handed on, two arrays compared.
-/
import Derived.Test.YtbemindfmghjdaaDoorDgI
import Derived.Deep.MidRow
namespace Go.Proofs.YtbemindfmghjdaaDoor.Dx
open Go.RowKit Kt Dk Dw Ds Dt De Df Dg Dh Di
set_option linter.unusedVariables false
set_option maxRecDepth 20000

theorem info5 : (Tryd.prog.info? 5).map (fun i => (i.zero, i.size, i.bytes)) = some (some (.int .u8 0), 1, 1) := by kernel_rfl

/-- The table as it is laid. -/
def ktab : List Int := [1116352408, 1899447441, 3049323471, 3921009573, 961987163, 1508970993, 2453635748, 2870763221, 3624381080, 310598401, 607225278, 1426881987, 1925078388, 2162078206, 2614888103, 3248222580, 3835390401, 4022224774, 264347078, 604807628, 770255983, 1249150122, 1555081692, 1996064986, 2554220882, 2821834349, 2952996808, 3210313671, 3336571891, 3584528711, 113926993, 338241895, 666307205, 773529912, 1294757372, 1396182291, 1695183700, 1986661051, 2177026350, 2456956037, 2730485921, 2820302411, 3259730800, 3345764771, 3516065817, 3600352804, 4094571909, 275423344, 430227734, 506948616, 659060556, 883997877, 958139571, 1322822218, 1537002063, 1747873779, 1955562222, 2024104815, 2227730452, 2361852424, 2428436474, 2756734187, 3204031479, 3329325298]
theorem ktab_get (i : Nat) (hi : i < 64) : Value.int .u32 (ktab.getD i 0) = .int .u32 ((Dp.KT.getD i 0 : Nat) : Int) := by
  have : ∀ i : Fin 64, ktab.getD i.1 0 = ((Dp.KT.getD i.1 0 : Nat) : Int) := by decide
  rw [this ⟨i, hi⟩]

theorem forIn_list {P : Program} (W : World) (f : Nat → (Option Bool × Unit) → Sem (ForInStep (Option Bool × Unit))) : ∀ l : List Nat, (∀ i ∈ l, (f i (none, ())).run P W = .ok (.yield (none, ())) W) → (forIn l (none, ()) f).run P W = .ok (none, ()) W
  | [], _ => rfl
  | a :: l, h => by
    rw [List.forIn_cons, Sem.run_bind, h a (by simp)]
    exact forIn_list W f l (fun i hi => h i (by simp [hi]))
theorem forIn_all {P : Program} (W : World) (f : Nat → (Option Bool × Unit) → Sem (ForInStep (Option Bool × Unit))) (n : Nat) (h : ∀ i, i < n → (f i (none, ())).run P W = .ok (.yield (none, ())) W) : (forIn [:n] (none, ()) f).run P W = .ok (none, ()) W := by
  rw [Std.Legacy.Range.forIn_eq_forIn_range']
  refine forIn_list W f _ (fun i hi => h i ?_)
  simp [Std.Legacy.Range.size] at hi
  omega

theorem eql_arr (W : World) (d : List UInt8) (hd : d.length = 32) : (binOp .eql 109 (.agg (U d).toArray) (.agg (U d).toArray)).run Tryd.prog W = .ok (.bool true) W := by
  have h1 : ∀ n, (Op.equalIn (n + 1 + 1) 109 (.agg (U d).toArray) (.agg (U d).toArray)).run Tryd.prog W = .ok true W := by
    intro n
    rw [Op.equalIn]
    simp only [Sem.run_bind, run_underlying Tryd.underlying109, Result.andThen_ok]
    have hs : (sizeOf 5).run Tryd.prog W = .ok 1 W := by
      have h : (Tryd.prog.info? 5).map (fun i => (i.zero, i.size)) = some (some (.int .u8 0), 1) := by kernel_rfl
      cases hq : Tryd.prog.info? 5 with
      | none => simp [hq] at h
      | some i =>
        have : i.size = 1 := by simp [hq] at h; exact h.2
        simp [sizeOf, typeInfo, hq, this]
    rw [hs]
    simp only [Result.andThen_ok]
    rw [forIn_all W _ 32 (fun i hi => ?_)]
    · rfl
    · have hp : (part 5 (U d).toArray (i * 1)).run Tryd.prog W = .ok (.int .u8 ((d.getD i 0).toNat : Int)) W := by
        have hag : (isAgg 5).run Tryd.prog W = .ok false W := by
          unfold isAgg
          rw [Sem.run_bind, run_underlying Tryd.underlying5 W]
          rfl
        have := U_at d i (by omega)
        simp [part, hag, this]
      have he : ∀ n, (Op.equalIn (n + 1) 5 (.int .u8 ((d.getD i 0).toNat : Int)) (.int .u8 ((d.getD i 0).toNat : Int))).run Tryd.prog W = .ok true W := by
        intro n
        rw [Op.equalIn]
        simp [run_underlying Tryd.underlying5]
      simp only [Sem.run_bind, hp, Result.andThen_ok, he]
      rfl
  have h2 : (Op.equal 109 (.agg (U d).toArray) (.agg (U d).toArray)).run Tryd.prog W = .ok true W := h1 9998
  simp only [binOp]
  simp [h2]
theorem neq_arr (W : World) (d : List UInt8) (hd : d.length = 32) : (binOp .neq 109 (.agg (U d).toArray) (.agg (U d).toArray)).run Tryd.prog W = .ok (.bool false) W := by
  have h0 := eql_arr W d hd
  have h1 : (Op.equal 109 (.agg (U d).toArray) (.agg (U d).toArray)).run Tryd.prog W = .ok true W := by
    simp only [binOp] at h0
    cases h : (Op.equal 109 (.agg (U d).toArray) (.agg (U d).toArray)).run Tryd.prog W with
    | ok b w' => cases b <;> simp [h] at h0 ⊢ <;> exact h0
    | halt x w' => simp [h] at h0
  simp only [binOp]
  simp [h1]

theorem Row_take {w : World} {ao : Option Addr} {bs : List UInt8} (h : Row w ao bs) (k : Nat) : Row w ao (bs.take k) := by
  intro hl
  rw [List.length_take] at hl
  obtain ⟨b, off, e, hc⟩ := h (by omega)
  refine ⟨b, off, e, fun i hi => ?_⟩
  rw [List.length_take] at hi
  rw [hc i (by omega)]
  simp [show i < k by omega]
/-- 'b[k:]', its address as the walk writes it. -/
theorem Row_drop {w : World} {ao : Option Addr} {bs : List UInt8} (h : Row w ao bs) {k cap : Nat} (hc : bs.length ≤ cap) : Row w (if cap = k then ao else Option.map (fun x => x.add k) ao) (bs.drop k) := by
  intro hl
  rw [List.length_drop] at hl
  obtain ⟨b, off, e, hcl⟩ := h (by omega)
  rw [if_neg (by omega), e]
  refine ⟨b, off + k, by simp [Addr.add], fun i hi => ?_⟩
  rw [List.length_drop] at hi
  rw [Nat.add_assoc, hcl (k + i) (by omega)]
  simp


/-- A slice of bytes that may be handed on. -/
def Sl (w : World) (ao : Option Addr) (cap : Nat) (bs : List UInt8) : Prop := Row w ao bs ∧ (∀ a, ao = some a → a.block < w.heap.size) ∧ bs.length ≤ cap ∧ cap ≤ 9223372036854775807
theorem Sl.below {w w' : World} {ao : Option Addr} {cap : Nat} {bs : List UInt8} (h : Sl w ao cap bs) (hb : Below w.heap.size w w') : Sl w' ao cap bs :=
  ⟨h.1.below hb, fun a ha => Nat.lt_of_lt_of_le (h.2.1 a ha) hb.size, h.2.2⟩
theorem Sl.only {w w' : World} {ao : Option Addr} {cap b : Nat} {bs : List UInt8} (h : Sl w ao cap bs) (hne : ∀ a, ao = some a → a.block ≠ b) (hb : Only b w w') : Sl w' ao cap bs :=
  ⟨(RowN.only ⟨h.1, hne⟩ hb).1, fun a ha => Nat.lt_of_lt_of_le (h.2.1 a ha) hb.size, h.2.2⟩
theorem Sl.own {w : World} {base e m : Nat} {v : Value} {bs : List UInt8} (h : w.ownsRow base e 1 v m (U bs)) : ∃ ao cap, v = .slice ao bs.length cap ∧ Sl w ao cap bs ∧ (∀ a, ao = some a → base ≤ a.block) := by
  obtain ⟨ao, cap, rfl⟩ := own_form h
  have hcm := own_cap h
  obtain ⟨rfl, hc, hr⟩ := Row.own h
  refine ⟨ao, cap, rfl, ⟨hr, ?_, hc, hcm⟩, ?_⟩
  · intro a ha
    rcases h.2 with ⟨e1, e2⟩ | ⟨g, c, cur, e1, _, hg, _⟩
    · simp only [Value.slice.injEq] at e1; rw [e1.1] at ha; cases ha
    · simp only [Value.slice.injEq] at e1; rw [e1.1] at ha; cases ha; exact (Array.getElem?_eq_some_iff.1 hg).1
  · intro a ha
    rcases h.2 with ⟨e1, e2⟩ | ⟨g, c, cur, e1, hb, hg, _⟩
    · simp only [Value.slice.injEq] at e1; rw [e1.1] at ha; cases ha
    · simp only [Value.slice.injEq] at e1; rw [e1.1] at ha; cases ha; exact hb
theorem own_mono {w : World} {B B' e n : Nat} {v : Value} {xs : List Value} (h : w.ownsRow B e 1 v n xs) (hB : B' ≤ B) : w.ownsRow B' e 1 v n xs := by
  refine ⟨h.1, ?_⟩
  rcases h.2 with h1 | ⟨g, cap, cur, e1, e2, e3⟩
  · exact .inl h1
  · exact .inr ⟨g, cap, cur, e1, by omega, e3⟩
theorem own_below {w w' : World} {base e size n : Nat} {v : Value} {xs : List Value} (h : w.ownsRow base e size v n xs) (hb : Below w.heap.size w w') : w'.ownsRow base e size v n xs := by
  refine ⟨h.1, ?_⟩
  rcases h.2 with h1 | ⟨g, cap, cur, e1, e2, e3, e4⟩
  · exact .inl h1
  · have hlt : g < w.heap.size := (Array.getElem?_eq_some_iff.1 e3).1
    exact .inr ⟨g, cap, cur, e1, e2, by rw [hb.block g hlt]; exact e3, e4⟩

/-- Of and Token of such a slice. -/
theorem of_sl (w : World) (ao : Option Addr) (cap : Nat) (bs : List UInt8) (hT : Tb w) (h : Sl w ao cap bs) (hn : bs.length ≤ 100000) :
    Calls Tryd.prog 67 #[.slice ao bs.length cap] w fun e w' => e = .returned (.agg (U (Dp.dig bs)).toArray) ∧ Below w.heap.size w w' := of_any w ao cap bs hT h.1 h.2.1 hn h.2.2.1 h.2.2.2
theorem token_sl (w : World) (ao : Option Addr) (cap : Nat) (bs : List UInt8) (hT : Tb w) (h : Sl w ao cap bs) (hn : bs.length ≤ 100000) :
    Calls Tryd.prog 34 #[.slice ao bs.length cap] w fun e w' => e = .returned (.string (S (tok bs))) ∧ Below w.heap.size w w' := token_any w ao cap bs hT h.1 h.2.1 hn h.2.2.1 h.2.2.2
end Go.Proofs.YtbemindfmghjdaaDoor.Dx
