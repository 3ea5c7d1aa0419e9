/-
  A region that draws its order, whose last operation z waits for all that is taken first: what is held of the world is held until z; behind it it may be given up. Nothing of the program.
-/
import Derived.Deep.RegionHeld3
import Derived.Deep.LoopGhost
namespace Go.Proofs.Ytabckkepkennhaa.Rg
open Go
set_option linter.unusedVariables false

section
variable {P : Program} {ops : Array Oper} {Q : Exit → Act → World → Prop} {md : Region.Mode} {S : World → Prop} {z : Nat}

/-- What came up has come up behind all that it waits for. -/
def Clo (md : Region.Mode) (ops : Array Oper) (listed : Array Bool) : Prop :=
  ∀ (k : Nat) (ok : Oper), ops[k]? = some ok → listed.getD k false = true → ∀ e ∈ ok.after, Region.binds md e = true → listed.getD e.on false = true
theorem Clo.start (n : Nat) : Clo md ops (Array.replicate n false) := fun k ok hk hl => by
  simp [Array.getElem?_replicate] at hl
  split at hl <;> simp at hl
theorem Clo.add {listed : Array Bool} {i : Nat} (h : Clo md ops listed) (hi : i ∈ Region.ready md ops listed) : Clo md ops (listed.setIfInBounds i true) := by
  intro k ok hk hl e he hb
  obtain ⟨h0, o, ho, hall⟩ := mem_ready.1 hi
  by_cases hki : i = k
  · subst hki
    rw [hk] at ho
    cases ho
    exact getD_set_true (hall e he hb)
  · rw [getD_set_ne false hki] at hl
    exact getD_set_true (h k ok hk hl e he hb)
/-- b waits for a. -/
def waits (md : Region.Mode) (ops : Array Oper) (b a : Nat) : Bool := match ops[b]? with
  | some o => o.after.any (fun e => Region.binds md e && e.on == a)
  | none => false
def chainB (md : Region.Mode) (ops : Array Oper) : List Nat → Bool
  | a :: b :: t => waits md ops b a && chainB md ops (b :: t)
  | _ => true
theorem waits_spec {a b : Nat} (h : waits md ops b a = true) : ∃ o, ops[b]? = some o ∧ ∃ e ∈ o.after, Region.binds md e = true ∧ e.on = a := by
  unfold waits at h
  split at h
  · rename_i o ho
    rw [Array.any_eq_true] at h
    obtain ⟨i, hi, h2⟩ := h
    simp only [Bool.and_eq_true, beq_iff_eq] at h2
    exact ⟨o, ho, _, Array.getElem_mem hi, h2.1, h2.2⟩
  · cases h
theorem chain_not {listed : Array Bool} (hc : Clo md ops listed) : ∀ (l : List Nat) (i : Nat), chainB md ops (i :: l) = true → listed.getD i false = false → l ≠ [] → (i :: l).getLast? = some z → z ∉ Region.ready md ops listed ∧ listed.getD z false = false
  | [], i, _, _, h, _ => absurd rfl h
  | b :: t, i, h, hi, _, hl => by
    have h' : waits md ops b i = true ∧ chainB md ops (b :: t) = true := by simpa [chainB] using h
    obtain ⟨o, ho, e, he, hb, rfl⟩ := waits_spec h'.1
    have hbn : listed.getD b false = false := by
      cases hq : listed.getD b false with
      | false => rfl
      | true => have := hc b o ho hq e he hb; rw [hi] at this; cases this
    by_cases ht : t = []
    · subst ht
      have hzb : z = b := by simpa using hl.symm
      subst hzb
      refine ⟨fun hz => ?_, hbn⟩
      obtain ⟨-, o', ho', hall⟩ := mem_ready.1 hz
      rw [ho] at ho'
      cases ho'
      have := hall e he hb
      rw [hi] at this
      cases this
    · exact chain_not hc t b h'.2 hbn ht (by rw [List.getLast?_cons_cons] at hl; exact hl)

/-- Whatever order is picked from here on; S holds as long as z is still to come. -/
def anyG (P : Program) (md : Region.Mode) (ops : Array Oper) (Q : Exit → Act → World → Prop) (S : World → Prop) (z : Nat) : Nat → Array Bool → Act → World → Prop
  | 0, listed, a, w => Region.ready md ops listed = [] ∧ Q .normal a w
  | fuel + 1, listed, a, w =>
    Clo md ops listed → ((Region.ready md ops listed = [] → Q .normal a w) ∧
    ∀ i ∈ Region.ready md ops listed, wpOp P ops Q i (fun a' w' => ((listed.setIfInBounds i true).getD z false = false → S w') ∧ anyG P md ops Q S z fuel (listed.setIfInBounds i true) a' w') a w)

theorem any_of_G : ∀ (fuel : Nat) (listed : Array Bool) (a : Act) (w : World), Clo md ops listed → anyG P md ops Q S z fuel listed a w → wpAny P md ops Q fuel listed a w
  | 0, _, _, _, _, h => h
  | fuel + 1, _, _, _, hc, h => ⟨(h hc).1, fun i hi => wpOp_mono (fun a' w' h' => any_of_G fuel _ a' w' (hc.add hi) h'.2) ((h hc).2 i hi)⟩

theorem unl {listed : Array Bool} {i : Nat} (hr : i ∈ Region.ready md ops listed) : listed.getD i false = false := by
  have h0 := (mem_ready.1 hr).1
  rcases Nat.lt_or_ge i listed.size with h' | h'
  · simp [h'] at h0 ⊢; exact h0
  · simp [Array.getElem?_eq_none h'] at h0
theorem anyG_first {i : Nat} {oi : Oper} {v : Value} (hi : ops[i]? = some oi) (hsel : ∀ (j : Nat) (o : Oper) cs b, ops[j]? = some o → o.op ≠ .select cs b)
    (hQ : ∀ c a w, Q (.panic c) (a.put oi.dst v) w → Q (.panic c) a w) (T : World → Prop) (hiz : i ≠ z)
    (hT : ∀ listed w, Clo md ops listed → i ∈ Region.ready md ops listed → (listed.getD z false = false → S w) → T w)
    (hT2 : ∀ listed j w, Clo md ops listed → i ∈ Region.ready md ops listed → j ∈ Region.ready md ops listed → j ≠ i → (((listed.setIfInBounds i true).setIfInBounds j true).getD z false = false → S w) → (listed.setIfInBounds j true).getD z false = false → S w) :
    ∀ (fuel : Nat) (listed : Array Bool) (a : Act) (w : World),
      (∀ j oj, ops[j]? = some oj → j ≠ i → listed.getD j true = false → (∀ e ∈ oj.after, Region.binds md e = true → e.on ≠ i) → oi.apart ops oj = true) →
      i ∈ Region.ready md ops listed → YieldsIf P ops T oi v a → (listed.getD z false = false → S w) →
      anyG P md ops Q S z fuel (listed.setIfInBounds i true) (a.put oi.dst v) w → anyG P md ops Q S z (fuel + 1) listed a w := by
  intro fuel
  have self : ∀ (listed : Array Bool) (w : World), (listed.getD z false = false → S w) → (listed.setIfInBounds i true).getD z false = false → S w := fun listed w h h2 => h (by rw [getD_set_ne false hiz] at h2; exact h2)
  induction fuel with
  | zero =>
    intro listed a w _ hr hy hS H hc
    refine ⟨fun h => (by rw [h] at hr; cases hr), fun j hj => ?_⟩
    by_cases hji : j = i
    · subst hji; exact hy.wpOp hi (hT listed w hc hr hS) ⟨self listed w hS, H⟩
    · have := ready_mono hj hji
      rw [H.1] at this
      cases this
  | succ fuel ih =>
    intro listed a w hfree hr hy hS H hc
    refine ⟨fun h => (by rw [h] at hr; cases hr), fun j hj => ?_⟩
    by_cases hji : j = i
    · subst hji; exact hy.wpOp hi (hT listed w hc hr hS) ⟨self listed w hS, H⟩
    · have h1 := (H (hc.add hr)).2 j (ready_mono hj hji)
      have hun := unl hr
      obtain ⟨hjun, oj, hoj, hall⟩ := mem_ready.1 hj
      have hnot : ∀ e ∈ oj.after, Region.binds md e = true → e.on ≠ i := fun e he hb heq => by
        have h1 := hall e he hb
        rw [heq, hun] at h1
        cases h1
      have h2 := wpOp_putIf hoj (hfree j oj hoj hji hjun hnot) (fun cs b => hsel i oi cs b hi) (fun cs b => hsel j oj cs b hoj) hQ hy h1
      have hfree' : ∀ k ok, ops[k]? = some ok → k ≠ i → (listed.setIfInBounds j true).getD k true = false →
          (∀ e ∈ ok.after, Region.binds md e = true → e.on ≠ i) → oi.apart ops ok = true := fun k ok hk hki hun hno => by
        refine hfree k ok hk hki ?_ hno
        by_cases hjk : j = k
        · subst hjk; exact hjun
        · rw [getD_set_ne true hjk] at hun; exact hun
      refine wpOp_mono (fun a' w' h3 => ?_) h2
      have hS' := hT2 listed j w' hc hr hj hji h3.2.1
      refine ⟨hS', ih (listed.setIfInBounds j true) a' w' hfree' (ready_mono hr (Ne.symm hji)) h3.1 hS' ?_⟩
      rw [Array.setIfInBounds_comm _ _ hji]
      exact h3.2.2

/-- Take number i first: in every world that meets S it yields v, and z waits for it. -/
theorem anyG_take {i : Nat} {oi : Oper} {v : Value} {fuel : Nat} {listed : Array Bool} {a : Act} {w : World} (hi : ops[i]? = some oi)
    (hs : Region.noSelect ops = true) (hf : Region.free md ops listed i = true) (hr : (Region.ready md ops listed).contains i = true)
    (ch : List Nat) (hch : (chainB md ops (i :: ch) && !ch.isEmpty && ((i :: ch).getLast? == some z) && (i != z)) = true)
    (hQ : ∀ c a w, Q (.panic c) (a.put oi.dst v) w → Q (.panic c) a w) (hy : YieldsIf P ops S oi v a) (hS : S w)
    (h : anyG P md ops Q S z fuel (listed.setIfInBounds i true) (a.put oi.dst v) w) : anyG P md ops Q S z (fuel + 1) listed a w := by
  simp only [Bool.and_eq_true, beq_iff_eq, Bool.not_eq_true', List.isEmpty_eq_false_iff, bne_iff_ne, ne_eq] at hch
  obtain ⟨⟨⟨c1, c2⟩, c3⟩, c4⟩ := hch
  refine anyG_first hi (Region.noSelect_spec hs) hQ S c4 (fun listed w hc hr hS => hS (chain_not hc ch i c1 (unl hr) c2 c3).2) (fun listed j w hc hr hj hji h _ => ?_) fuel listed a w (Region.free_spec hi hf) (by simpa using hr) hy (fun _ => hS) h
  have hcn := chain_not hc ch i c1 (unl hr) c2 c3
  have hjz : j ≠ z := fun e => hcn.1 (by rw [← e]; exact hj)
  refine h ?_
  rw [getD_set_ne false hjz, getD_set_ne false c4]
  exact hcn.2
/-- Take number i first: it yields v in whatever world. -/
theorem anyG_pure {i : Nat} {oi : Oper} {v : Value} {fuel : Nat} {listed : Array Bool} {a : Act} {w : World} (hi : ops[i]? = some oi)
    (hs : Region.noSelect ops = true) (hf : Region.free md ops listed i = true) (hr : (Region.ready md ops listed).contains i = true) (hiz : (i != z) = true)
    (hQ : ∀ c a w, Q (.panic c) (a.put oi.dst v) w → Q (.panic c) a w) (hy : YieldsIf P ops (fun _ => True) oi v a) (hS : listed.getD z false = false → S w)
    (h : anyG P md ops Q S z fuel (listed.setIfInBounds i true) (a.put oi.dst v) w) : anyG P md ops Q S z (fuel + 1) listed a w := by
  have hiz' : i ≠ z := by simpa using hiz
  refine anyG_first hi (Region.noSelect_spec hs) hQ (fun _ => True) hiz' (fun _ _ _ _ _ => trivial) (fun listed j w hc hr hj hji h h2 => h ?_) fuel listed a w (Region.free_spec hi hf) (by simpa using hr) hy hS h
  rw [Array.setIfInBounds_comm _ _ (Ne.symm hji), getD_set_ne false hiz']
  exact h2

/-- Each of the operations rs comes up next. -/
def AllG (P : Program) (md : Region.Mode) (ops : Array Oper) (Q : Exit → Act → World → Prop) (S : World → Prop) (z fuel : Nat) (listed : Array Bool) (a : Act) (w : World) (rs : List Nat) : Prop :=
  ∀ i ∈ rs, wpOp P ops Q i (fun a' w' => ((listed.setIfInBounds i true).getD z false = false → S w') ∧ anyG P md ops Q S z fuel (listed.setIfInBounds i true) a' w') a w
theorem AllG.nil {fuel : Nat} {listed : Array Bool} {a : Act} {w : World} : AllG P md ops Q S z fuel listed a w [] := fun _ h => by cases h
theorem AllG.cons {fuel : Nat} {listed : Array Bool} {a : Act} {w : World} {i : Nat} {o : Oper} {rs : List Nat} (ho : ops[i]? = some o)
    (h : ∀ K' : Act → World → Prop, Shut (∀ a w, S w → (S w → anyG P md ops Q S z fuel (listed.setIfInBounds i true) a w) → K' a w) → if Region.wanted o (yielded ops a.tmps) = true then Oper.wp P o a w K' Q else K' (a.put o.dst undef) w)
    (hs : AllG P md ops Q S z fuel listed a w rs) : AllG P md ops Q S z fuel listed a w (i :: rs) := fun j hj => by
  rcases List.mem_cons.1 hj with rfl | hj
  · exact wpOp_step ho (fun K' hK => h K' (fun a w hS hW => hK a w ⟨fun _ => hS, hW hS⟩))
  · exact hs j hj
/-- The last one. -/
theorem set_self {listed : Array Bool} (hl : z < listed.size) : (listed.setIfInBounds z true).getD z false = true := by
  simp [hl]
theorem AllG.last {fuel : Nat} {listed : Array Bool} {a : Act} {w : World} {o : Oper} (ho : ops[z]? = some o) (hl : Nat.ble (z + 1) listed.size = true)
    (h : ∀ K' : Act → World → Prop, Shut (∀ a w, anyG P md ops Q S z fuel (listed.setIfInBounds z true) a w → K' a w) → if Region.wanted o (yielded ops a.tmps) = true then Oper.wp P o a w K' Q else K' (a.put o.dst undef) w) : AllG P md ops Q S z fuel listed a w [z] := fun j hj => by
  obtain rfl := List.mem_singleton.1 hj
  exact wpOp_step ho (fun K' hK => h K' (fun a w hW => hK a w ⟨fun e => absurd e (by rw [set_self (Nat.le_of_ble_eq_true hl)]; simp), hW⟩))
/-- One that comes behind z. -/
theorem AllG.behind {fuel : Nat} {listed : Array Bool} {a : Act} {w : World} {i : Nat} {o : Oper} {rs : List Nat} (ho : ops[i]? = some o) (hz : listed.getD z false = true)
    (h : ∀ K' : Act → World → Prop, Shut (∀ a w, anyG P md ops Q S z fuel (listed.setIfInBounds i true) a w → K' a w) → if Region.wanted o (yielded ops a.tmps) = true then Oper.wp P o a w K' Q else K' (a.put o.dst undef) w)
    (hs : AllG P md ops Q S z fuel listed a w rs) : AllG P md ops Q S z fuel listed a w (i :: rs) := fun j hj => by
  rcases List.mem_cons.1 hj with rfl | hj
  · exact wpOp_step ho (fun K' hK => h K' (fun a w hW => hK a w ⟨fun e => absurd e (by rw [getD_set_true hz]; simp), hW⟩))
  · exact hs j hj
theorem anyG_ready {rs : List Nat} {fuel : Nat} {listed : Array Bool} {a : Act} {w : World} (hr : Region.ready md ops listed = rs) (hne : rs ≠ [])
    (h : AllG P md ops Q S z fuel listed a w rs) : anyG P md ops Q S z (fuel + 1) listed a w := fun _ => ⟨fun h0 => absurd (hr ▸ h0) hne, hr ▸ h⟩
theorem anyG_done {listed : Array Bool} {a : Act} {w : World} (hr : Region.ready md ops listed = []) (h : Q .normal a w) : ∀ fuel, anyG P md ops Q S z fuel listed a w
  | 0 => ⟨hr, h⟩
  | _ + 1 => fun _ => ⟨fun _ => h, by rw [hr]; simp⟩
/-- The beginning. -/
theorem region_G {id : Nat} {a : Act} {w : World} (hm : P.follows .mixedOrders = true) (z : Nat) (S : World → Prop) (hS : S w.drew)
    (h : S w.drew → anyG P .any ops Q S z ops.size (Array.replicate ops.size false) a w.drew) : (Code.region id ops true).wp P Q a w :=
  wp_region_any hm (any_of_G _ _ _ _ (Clo.start _) (h hS))
end
/-! Frames of many slots: those that matter are written out, the others are 'u i'. -/
section
variable {P : Program} {Q : Exit → Act → World → Prop}
theorem meetU {K : Act → World → Prop} {T : Array Value} {W : World} (F : (Nat → Value) → Array Value) (h : ∀ u, K ⟨F u, []⟩ W) (e : F (fun i => T.getD i undef) = T) : K ⟨T, []⟩ W := by
  rw [← e]; exact h _
theorem cutU {s : Code} {K : Act → World → Prop} {Q' : Exit → Act → World → Prop} {a : Act} {w : World} {β : Type} (F : β → (Nat → Value) → Array Value) (R : β → World → Prop)
    (rest : ∀ b u w', R b w' → K ⟨F b u, []⟩ w')
    (first : ∀ K' : Act → World → Prop, Shut (∀ b u w', R b w' → K' ⟨F b u, []⟩ w') → s.wp P (Exit.then K' Q') a w) : s.wp P (Exit.then K Q') a w := first K rest
theorem loopU {c : Code} {T : Array Value} {w : World} {β : Type} (F : β → (Nat → Value) → Array Value) (R : β → World → Prop) (μ : β → Nat) (b0 : β) (h0 : R b0 w) (e0 : F b0 (fun i => T.getD i undef) = T)
    (round : ∀ b u w, R b w → ∀ K : Act → World → Prop, Shut (∀ b' u' w', μ b' < μ b → R b' w' → K ⟨F b' u', []⟩ w') → c.wp P (Exit.then K Q) ⟨F b u, []⟩ w) : (Code.loop c).wp P Q ⟨T, []⟩ w := by
  refine wp_loop_ghost (fun n a w => ∃ b u, n = μ b ∧ a = ⟨F b u, []⟩ ∧ R b w) (μ b0) ⟨b0, _, rfl, by rw [e0], h0⟩ ?_
  rintro n a w ⟨b, u, rfl, rfl, hR⟩
  exact round b u w hR _ (fun b' u' w' hlt hR' => ⟨μ b', hlt, b', u', rfl, rfl, hR'⟩)
end
end Go.Proofs.Ytabckkepkennhaa.Rg
