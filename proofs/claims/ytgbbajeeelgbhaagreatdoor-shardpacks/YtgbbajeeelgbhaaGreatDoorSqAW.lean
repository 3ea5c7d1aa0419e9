/-
  WiS WiB WiT WiA2, joined by mrg.py.
-/
import Derived.Test.YtgbbajeeelgbhaaGreatDoorSqAT
import Derived.Test.YtgbbajeeelgbhaaGreatDoorSqAV
import Derived.Deep.RegionHeld3
import Derived.Test.YtgbbajeeelgbhaaGreatDoorSqAG

namespace Go.Proofs.YtgbbajeeelgbhaaGreatDoor.Wx
open Go
set_option linter.unusedVariables false
section
variable {P : Program} {ops : Array Oper} {Q : Exit → Act → World → Prop} {S : World → Prop} {md : Region.Mode}

/-- A frame in which some slots hold what x says. -/
def puts2 (dst : Nat → Option Tmp) (a0 : Act) (x : Nat → Value) : List Nat → Act
  | [] => a0
  | i :: U => (puts2 dst a0 x U).put (dst i) (x i)
theorem put_put2 (a : Act) (d : Option Tmp) (u v : Value) : (a.put d u).put d v = a.put d v := by
  cases d with
  | none => rfl
  | some d => exact put_put a d u v
theorem put_comm2 (a : Act) {d e : Option Tmp} (u v : Value) (h : d = e → d = none) : (a.put d u).put e v = (a.put e v).put d u := by
  cases d with
  | none => rfl
  | some d =>
    cases e with
    | none => rfl
    | some e => exact put_comm a u v (fun he => by cases h (by rw [he]))
theorem puts2_same {dst : Nat → Option Tmp} {a0 : Act} {x : Nat → Value} {j : Nat} {v : Value} : ∀ (U : List Nat), j ∉ U → puts2 dst a0 (fun k => if k = j then v else x k) U = puts2 dst a0 x U
  | [], _ => rfl
  | i :: U, h => by
    rw [List.mem_cons, not_or] at h
    unfold puts2
    rw [puts2_same U h.2]
    simp [show i ≠ j from fun e => h.1 e.symm]
theorem puts2_put {dst : Nat → Option Tmp} {a0 : Act} {x : Nat → Value} {j : Nat} {v : Value} : ∀ (U : List Nat), j ∈ U → U.Nodup → (∀ i ∈ U, ∀ k ∈ U, dst i = dst k → dst i ≠ none → i = k) →
    (puts2 dst a0 x U).put (dst j) v = puts2 dst a0 (fun k => if k = j then v else x k) U
  | [], h, _, _ => by cases h
  | i :: U, h, hn, hd => by
    rw [List.nodup_cons] at hn
    by_cases hij : i = j
    · subst hij
      simp only [puts2]
      rw [put_put2, puts2_same U hn.1]
      simp
    · have hj : j ∈ U := by
        rcases List.mem_cons.1 h with h | h
        · exact absurd h.symm hij
        · exact h
      simp only [puts2]
      rw [put_comm2 _ _ _ (fun e => Classical.byContradiction fun hne => hij (hd i (by simp) j (by simp [hj]) e hne)), puts2_put U hj hn.2 (fun a ha b hb => hd a (by simp [ha]) b (by simp [hb]))]
      simp [hij]

/-- What is asked of a region's shape: all but U has come; who takes what; those that write come one behind the other. -/
def shape2 (md : Region.Mode) (ops : Array Oper) (U : List Nat) (dst : Nat → Option Nat) (cons : Nat → Nat) (deps reads : Nat → List Nat) (isW : Nat → Bool) (pre : List Nat) (listed : Array Bool) : Bool :=
  (List.range listed.size).all (fun j => U.contains j || listed[j]? == some true) &&
  U.all (fun i => (if pre.contains i then listed[i]? == some true && (!isW i || U.all (fun k => !isW k || !decide (k < i))) else listed[i]? == some false) && U.all (fun k => dst i != dst k || i == k || dst i == none) && (deps i).all (fun d => U.contains d && cons d == i && ((ops[i]?).map fun o => o.after.toList.any fun e => Region.binds md e && e.on == d).getD false)) &&
  U.all (fun i => (reads i).all (fun r => U.contains r && U.contains (cons r) && !pre.contains (cons r) && (pre.contains r || ((ops[i]?).map fun o => o.after.toList.any fun e => Region.binds md e && e.on == r).getD false) && ((ops[cons r]?).map fun o => o.after.toList.any fun e => Region.binds md e && e.on == i).getD false)) &&
  U.all (fun j => !isW j || U.all (fun i => !isW i || !decide (i < j) || ((deps j).any (fun p => isW p && decide (i ≤ p)) && decide (cons i ≤ j) && isW (cons i) && U.contains (cons i)))) &&
  U.all (fun i => ((ops[i]?).map fun o => o.after.toList.all fun e => decide (e.on < i)).getD false)

/-- Whatever order comes: each operation finds what it takes, and leaves what it makes. -/
theorem wpAnyH_linear2 (U : List Nat) (dst : Nat → Option Nat) (cons : Nat → Nat) (deps reads : Nat → List Nat) (isW : Nat → Bool) (pre : List Nat) (F : Nat → Value → World → Prop) (R0 R1 : World → World → Prop) (a0 : Act) (x0 : Nat → Value) (listed0 : Array Bool) (w0 : World) (fuel : Nat)
    (hU : U.Nodup) (hsh : shape2 md ops U dst cons deps reads isW pre listed0 = true)
    (s0 : ∀ i ∈ U, ∀ v w w', F i v w → R0 w w' → F i v w') (s1 : ∀ i ∈ U, isW i = false → ∀ v w w', F i v w → R1 w w' → F i v w')
    (step : ∀ i ∈ U, i ∉ pre → ∀ x w, S w → (∀ d ∈ deps i, F d (x d) w) → (∀ d ∈ reads i, F d (x d) w) → wpOp P ops Q i (fun a' w' => ∃ v, a' = (puts2 dst a0 x U).put (dst i) v ∧ S w' ∧ F i v w' ∧ (if isW i then R1 w w' else R0 w w')) (puts2 dst a0 x U) w)
    (fin : ∀ x w, S w → (∀ i ∈ U, cons i ∉ U → F i (x i) w) → Q .normal (puts2 dst a0 x U) w)
    (hpre : ∀ i ∈ pre, F i (x0 i) w0) (hf : unl listed0 ≤ fuel) (hS : S w0) (hc : ∀ i ∈ U, cons i ∉ U → ops.size ≤ cons i) (hz : listed0.size = ops.size) : wpAnyH P md ops Q S fuel listed0 (puts2 dst a0 x0 U) w0 := by
  simp only [shape2, Bool.and_eq_true, List.all_eq_true, List.mem_range, Bool.or_eq_true, List.contains_iff_mem, beq_iff_eq, Bool.not_eq_true', List.any_eq_true, decide_eq_true_eq, decide_eq_false_iff_not, bne_iff_ne, ne_eq] at hsh
  obtain ⟨⟨⟨⟨g1, g2⟩, g5⟩, g3⟩, g4⟩ := hsh
  have hin : ∀ i ∈ U, (i ∈ pre ∧ listed0[i]? = some true ∧ (isW i = true → ∀ k ∈ U, isW k = true → ¬ k < i)) ∨ (i ∉ pre ∧ listed0[i]? = some false) := fun i hi => by
    have h1 := (g2 i hi).1.1
    by_cases hp : i ∈ pre
    · left
      rw [if_pos hp] at h1
      simp only [Bool.and_eq_true, beq_iff_eq, Bool.or_eq_true, Bool.not_eq_true', List.all_eq_true, decide_eq_false_iff_not] at h1
      refine ⟨hp, h1.1, fun hw k hk hwk => ?_⟩
      rcases h1.2 with h | h
      · rw [hw] at h; cases h
      · rcases h k hk with h | h
        · rw [hwk] at h; cases h
        · exact h
    · right
      rw [if_neg hp] at h1
      exact ⟨hp, by simpa using h1⟩
  have hd : ∀ i ∈ U, ∀ k ∈ U, dst i = dst k → dst i ≠ none → i = k := fun i hi k hk e hne => by
    rcases (((g2 i hi).1.2) k hk) with (h | h) | h
    · exact absurd e h
    · exact h
    · exact absurd h hne
  have hrd : ∀ i ∈ U, ∀ r ∈ reads i, r ∈ U ∧ cons r ∈ U ∧ cons r ∉ pre ∧ (r ∈ pre ∨ ((ops[i]?).map fun o => o.after.toList.any fun e => Region.binds md e && e.on == r).getD false = true) ∧ ((ops[cons r]?).map fun o => o.after.toList.any fun e => Region.binds md e && e.on == i).getD false = true := fun i hi r hr => by
    have h := g5 i hi r hr
    refine ⟨h.1.1.1.1, h.1.1.1.2, ?_, h.1.2, h.2⟩
    have := h.1.1.2
    simpa using this
  have hdep : ∀ i ∈ U, ∀ d ∈ deps i, d ∈ U ∧ cons d = i ∧ ((ops[i]?).map fun o => o.after.toList.any fun e => Region.binds md e && e.on == d).getD false = true := fun i hi d hd => by
    have := (g2 i hi).2 d hd
    exact ⟨this.1.1, this.1.2, this.2⟩
  have hwr : ∀ j ∈ U, isW j = true → ∀ i ∈ U, isW i = true → i < j → (∃ p ∈ deps j, isW p = true ∧ i ≤ p) ∧ cons i ≤ j ∧ isW (cons i) = true ∧ cons i ∈ U := fun j hj wj i hi wi hij => by
    rcases g3 j hj with h | h
    · rw [wj] at h; cases h
    · rcases h i hi with (h | h) | h
      · rw [wi] at h; cases h
      · exact absurd hij h
      · exact ⟨h.1.1.1, h.1.1.2, h.1.2, h.2⟩
  refine wpAnyH_inv (fun listed a w => ∃ x, a = puts2 dst a0 x U ∧ listed.size = ops.size ∧ (∀ j, j ∉ U → listed[j]? = listed0[j]?) ∧ (∀ i ∈ U, listed[i]? = some true → listed[cons i]? ≠ some true → F i (x i) w) ∧
      (∀ i ∈ U, ∀ j ∈ U, isW i = true → isW j = true → i < j → listed[j]? = some true → listed[i]? = some true) ∧ (∀ i ∈ U, i ∈ pre → listed[i]? = some true) ∧ (∀ j ∈ U, j ∉ pre → listed[j]? = some true → ∀ o, ops[j]? = some o → ∀ e ∈ o.after, Region.binds md e = true → listed[e.on]? = some true)) ?_ ?_ fuel listed0 _ w0 hf ?_ hS
  · rintro listed a w ⟨x, rfl, hsz, hout, hfact, hcl, hpl, hca⟩ hSw i hi
    obtain ⟨hun, o, ho, haft⟩ := mem_ready.1 hi
    have hun := getD_false hun
    have hilt : i < listed.size := (Array.getElem?_eq_some_iff.1 hun).1
    have hiU : i ∈ U := by
      rcases g1 i (by rw [hz]; omega) with h | h
      · exact h
      · by_cases hiU : i ∈ U
        · exact hiU
        · rw [hout i hiU, h] at hun; cases hun
    have hdl : ∀ d ∈ deps i, listed[d]? = some true := fun d hdm => by
      have h3 := (hdep i hiU d hdm).2.2
      rw [ho] at h3
      simp only [Option.map_some, Option.getD_some, List.any_eq_true, Bool.and_eq_true, beq_iff_eq] at h3
      obtain ⟨e, he, hb, rfl⟩ := h3
      exact getD_true (haft e (by simpa using he) hb)
    have hFd : ∀ d ∈ deps i, F d (x d) w := fun d hdm => by
      have h3 := hdep i hiU d hdm
      refine hfact d h3.1 (hdl d hdm) ?_
      rw [h3.2.1, hun]; simp
    have hip : i ∉ pre := fun h => by have := hpl i hiU h; rw [hun] at this; cases this
    have hFr : ∀ d ∈ reads i, F d (x d) w := fun d hdm => by
      obtain ⟨h1, h2, h3, h4, h5⟩ := hrd i hiU d hdm
      refine hfact d h1 ?_ (fun hc => ?_)
      · rcases h4 with h4 | h4
        · exact hpl d h1 h4
        · rw [ho] at h4
          simp only [Option.map_some, Option.getD_some, List.any_eq_true, Bool.and_eq_true, beq_iff_eq] at h4
          obtain ⟨e, he, hb, rfl⟩ := h4
          exact getD_true (haft e (by simpa using he) hb)
      · cases hoc : ops[cons d]? with
        | none => rw [hoc] at h5; simp at h5
        | some oc =>
          rw [hoc] at h5
          simp only [Option.map_some, Option.getD_some, List.any_eq_true, Bool.and_eq_true, beq_iff_eq] at h5
          obtain ⟨e, he, hb, he2⟩ := h5
          have := hca (cons d) h2 h3 hc oc hoc e (by simpa using he) hb
          rw [he2, hun] at this
          cases this
    refine wpOp_mono ?_ (step i hiU hip x w hSw hFd hFr)
    rintro a' w' ⟨v, rfl, hS', hFi, hR⟩
    have hset : ∀ k, (listed.setIfInBounds i true)[k]? = if k = i then some true else listed[k]? := fun k => by
      by_cases hk : k = i
      · subst hk; rw [if_pos rfl, Array.getElem?_setIfInBounds_self_of_lt hilt]
      · rw [if_neg hk, Array.getElem?_setIfInBounds_ne (fun e => hk e.symm)]
    refine ⟨hS', fun k => if k = i then v else x k, puts2_put U hiU hU hd, by simpa using hsz, fun j hj => ?_, fun k hk hkl hkc => ?_, fun i1 h1 j1 h2 w1 w2 hlt hl => ?_, fun i1 h1 h2 => ?_, fun j hj hjp hjl oj hoj e he hb => ?_⟩
    · rw [hset, if_neg (fun (e : j = i) => hj (e ▸ hiU))]; exact hout j hj
    · rw [hset] at hkl hkc
      by_cases hki : k = i
      · subst hki; simpa using hFi
      · rw [if_neg hki] at hkl
        have hci : cons k ≠ i := fun e => by rw [if_pos e] at hkc; exact hkc rfl
        rw [if_neg hci] at hkc
        have hF := hfact k hk hkl hkc
        simp only [hki, if_false]
        cases hwi : isW i with
        | false => rw [hwi] at hR; exact s0 k hk _ _ _ hF (by simpa using hR)
        | true =>
          rw [hwi] at hR
          cases hwk : isW k with
          | false => exact s1 k hk hwk _ _ _ hF (by simpa using hR)
          | true =>
            exfalso
            rcases Nat.lt_or_ge k i with hlt | hge
            · obtain ⟨⟨p, hp, wp, hkp⟩, -⟩ := hwr i hiU hwi k hk hwk hlt
              have hpl := hdl p hp
              have hpU := (hdep i hiU p hp).1
              rcases Nat.lt_or_ge k p with h | h
              · obtain ⟨-, hcp, hcw, hcU⟩ := hwr p hpU wp k hk hwk h
                rcases Nat.lt_or_ge (cons k) p with h5 | h5
                · exact hkc (hcl (cons k) hcU p hpU hcw wp h5 hpl)
                · have : cons k = p := by omega
                  rw [this] at hkc; exact hkc hpl
              · have : k = p := by omega
                subst this
                exact hci (hdep i hiU k hp).2.1
            · have := hcl i hiU k hk hwi hwk (by omega) hkl
              rw [hun] at this; cases this
    · rw [hset] at hl ⊢
      by_cases h3 : i1 = i
      · rw [if_pos h3]
      · rw [if_neg h3]
        by_cases h4 : j1 = i
        · subst h4
          obtain ⟨⟨p, hp, wp, hkp⟩, -⟩ := hwr j1 h2 w2 i1 h1 w1 hlt
          rcases Nat.lt_or_ge i1 p with h | h
          · exact hcl i1 h1 p (hdep j1 h2 p hp).1 w1 wp h (hdl p hp)
          · have : i1 = p := by omega
            rw [this]; exact hdl p hp
        · rw [if_neg h4] at hl
          exact hcl i1 h1 j1 h2 w1 w2 hlt hl
    · rw [hset]
      by_cases h3 : i1 = i
      · rw [if_pos h3]
      · rw [if_neg h3]; exact hpl i1 h1 h2
    · rw [hset] at hjl ⊢
      by_cases h3 : e.on = i
      · rw [if_pos h3]
      · rw [if_neg h3]
        by_cases h4 : j = i
        · subst h4
          rw [ho] at hoj
          injection hoj with hoj
          subst hoj
          exact getD_true (haft e he hb)
        · rw [if_neg h4] at hjl
          exact hca j hj hjp hjl oj hoj e he hb
  · rintro listed a w ⟨x, rfl, hsz, hout, hfact, hcl, hpl, hca⟩ hSw hrdy
    have hall : ∀ n i, i < n → i < listed.size → listed[i]? = some true := by
      intro n
      induction n with
      | zero => intro i hi; omega
      | succ n ih =>
        intro i hi hl
        by_cases hiU : i ∈ U
        · by_cases ht : listed[i]? = some true
          · exact ht
          · exfalso
            have hfalse : listed[i]? = some false := by
              rw [Array.getElem?_eq_getElem hl] at ht ⊢
              cases hb : listed[i] with
              | true => rw [hb] at ht; exact absurd rfl ht
              | false => rfl
            have ho : ops[i]? = some ops[i] := Array.getElem?_eq_getElem (by omega)
            have h4 := g4 i hiU
            rw [ho] at h4
            simp only [Option.map_some, Option.getD_some, List.all_eq_true, decide_eq_true_eq] at h4
            have : i ∈ Region.ready md ops listed := mem_ready.2 ⟨by simp [Array.getD, hl, (Array.getElem?_eq_some_iff.1 hfalse).2], ops[i], ho, fun e he hb => by
              have h5 := h4 e (by simpa using he)
              have h6 := ih e.on (by omega) (by omega)
              obtain ⟨h7, h8⟩ := Array.getElem?_eq_some_iff.1 h6
              simp [Array.getD, h7, h8]⟩
            rw [hrdy] at this
            cases this
        · rw [hout i hiU]
          rcases g1 i (by omega) with h | h
          · exact absurd h hiU
          · exact h
    refine fin x w hSw (fun i hi hci => hfact i hi (hall (i + 1) i (by omega) ?_) ?_)
    · rcases hin i hi with h | h
      · have := (Array.getElem?_eq_some_iff.1 h.2.1).1; omega
      · have := (Array.getElem?_eq_some_iff.1 h.2).1; omega
    · rw [Array.getElem?_eq_none (by have := hc i hi hci; omega)]; simp
  · refine ⟨x0, rfl, hz, fun _ _ => rfl, fun i hi hl _ => ?_, fun i hi j hj hwi hwj hij hl => ?_, fun i hi hp => ?_, fun j hj hjp hl => ?_⟩
    · rcases hin i hi with h | h
      · exact hpre i h.1
      · rw [h.2] at hl; cases hl
    · rcases hin j hj with h | h
      · exact absurd hij (h.2.2 hwj i hi hwi)
      · rw [h.2] at hl; cases hl
    · rcases hin i hi with h | h
      · exact h.2.1
      · exact absurd hp h.1
    · rcases hin j hj with h | h
      · exact absurd h.1 hjp
      · rw [h.2] at hl; cases hl

def slot (a : Act) (d : Option Tmp) : Value := match d with
  | none => undef
  | some d => a.tmps.getD d undef
theorem put_slot (a : Act) (d : Option Tmp) : a.put d (slot a d) = a := by
  cases d with
  | none => rfl
  | some d => exact put_self a d
theorem puts2_self (dst : Nat → Option Tmp) (a : Act) : ∀ U : List Nat, puts2 dst a (fun i => slot a (dst i)) U = a
  | [] => rfl
  | i :: U => by unfold puts2; rw [puts2_self dst a U, put_slot]
theorem wpAnyH_lin2 {fuel : Nat} {listed0 : Array Bool} {a : Act} {w0 : World} (U : List Nat) (dst : Nat → Option Nat) (cons : Nat → Nat) (deps reads : Nat → List Nat) (isW : Nat → Bool) (pre : List Nat) (F : Nat → Value → World → Prop) (R0 R1 : World → World → Prop)
    (hU : U.Nodup) (hsh : shape2 md ops U dst cons deps reads isW pre listed0 = true)
    (s0 : ∀ i ∈ U, ∀ v w w', F i v w → R0 w w' → F i v w') (s1 : ∀ i ∈ U, isW i = false → ∀ v w w', F i v w → R1 w w' → F i v w')
    (step : ∀ i ∈ U, i ∉ pre → ∀ x w, S w → (∀ d ∈ deps i, F d (x d) w) → (∀ d ∈ reads i, F d (x d) w) → wpOp P ops Q i (fun a' w' => ∃ v, a' = (puts2 dst a x U).put (dst i) v ∧ S w' ∧ F i v w' ∧ (if isW i then R1 w w' else R0 w w')) (puts2 dst a x U) w)
    (fin : ∀ x w, S w → (∀ i ∈ U, cons i ∉ U → F i (x i) w) → Q .normal (puts2 dst a x U) w)
    (hpre : ∀ i ∈ pre, F i (slot a (dst i)) w0) (hf : unl listed0 ≤ fuel) (hS : S w0) (hc : ∀ i ∈ U, cons i ∉ U → ops.size ≤ cons i) (hz : listed0.size = ops.size) : wpAnyH P md ops Q S fuel listed0 a w0 := by
  have := wpAnyH_linear2 (P := P) (Q := Q) (S := S) (md := md) U dst cons deps reads isW pre F R0 R1 a (fun i => slot a (dst i)) listed0 w0 fuel hU hsh s0 s1 step fin hpre hf hS hc hz
  rwa [puts2_self] at this


/-- One operation alone may come. -/
theorem wpAnyH_one {i fuel : Nat} {listed : Array Bool} {a : Act} {w : World} (hr : Region.ready md ops listed = [i]) (h : wpOp P ops Q i (fun a' w' => S w' ∧ wpAnyH P md ops Q S fuel (listed.setIfInBounds i true) a' w') a w) : wpAnyH P md ops Q S (fuel + 1) listed a w := by
  refine ⟨fun h0 => ?_, fun j hj => ?_⟩
  · rw [hr] at h0; cases h0
  · rw [hr] at hj
    obtain rfl := List.mem_singleton.1 hj
    exact h
theorem run_app {o : Oper} {a : Act} {s x : Operand} {t tx : TypeId} {v xv v' : Value} {w w' : World} (ho : o.op = .call { callee := .builtin .append, args := #[s, x], argTypes := #[t, tx] }) (hs : a.eval s = v) (hx : a.eval x = xv)
    (hr : (Builtin.append_ #[t, tx] o.type #[v, xv]).run P w = .ok v' w') : (execOp a.eval o).run P w = .ok (.value v') w' := by
  unfold execOp
  simp only [ho, resolve, invoke, builtin, Sem.run_bind, Sem.run_pure, Result.andThen_ok, List.map_toArray, List.map_cons, List.map_nil, hs, hx, hr]
theorem op_skip {i : Nat} {o : Oper} {a : Act} {w w' : World} {K : Act → World → Prop} (ho : ops[i]? = some o) (hg : o.guard = none) (hrun : (execOp a.eval o).run P w = .ok .skip w') (hK : K (a.put o.dst undef) w') : wpOp P ops Q i K a w := by
  refine wpOp_step ho (fun K' hK' => ?_)
  rw [if_pos (wanted_plain hg)]
  unfold Oper.wp
  rw [hrun]
  exact hK' _ _ hK
end
end Go.Proofs.YtgbbajeeelgbhaaGreatDoor.Wx

namespace Go.Proofs.YtgbbajeeelgbhaaGreatDoor.Wb
open Go.RowKit Kt Pl Wi Wk Ww Wx Wf Wy
open At (RowT okT)
set_option linter.unusedVariables false
set_option linter.unusedSimpArgs false
set_option maxRecDepth 20000

theorem S_take (s : Bs) (n : Nat) : (S s).extract 0 n = S (s.take n) := by
  apply ByteArray.ext
  simp [S, ByteArray.data_extract]

theorem S_all (s : Bs) : (S s).extract 0 (S s).size = S s := by
  have := S_take s s.length
  rw [List.take_of_length_le (Nat.le_refl _)] at this
  exact this

/-- What the laws' 'data' leaves. -/
def dataC (l : List Bs) : List Bs := (l.take 1100).map (·.take 4100)
theorem dataC_len (l : List Bs) : (dataC l).length ≤ 1100 := by unfold dataC; rw [List.length_map, List.length_take]; omega
theorem dataC_snoc {l : List Bs} {k : Nat} {x : Bs} (h : l[k]? = some x) (hk : k < 1100) : dataC (l.take (k + 1)) = dataC (l.take k) ++ [x.take 4100] := by
  unfold dataC
  rw [List.take_take, List.take_take, show min 1100 (k + 1) = k + 1 by omega, show min 1100 k = k by omega, List.take_add_one, h]
  simp
theorem dataC_take {l : List Bs} {k : Nat} (hk : k ≤ 1100) : (dataC (l.take k)).length ≤ k := by unfold dataC; rw [List.length_map, List.length_take, List.length_take]; omega
theorem dataC_all {l : List Bs} {k : Nat} (hk : k = l.length ∨ k = 1100) : dataC (l.take k) = dataC l := by
  unfold dataC
  rcases hk with rfl | rfl
  · rw [List.take_of_length_le (l := l) (Nat.le_refl _)]
  · rw [List.take_take]; simp
theorem info9 : (Tryz.prog.info? 9).map (fun i => (i.zero, i.size, i.bytes)) = some (some (.string ByteArray.empty), 1, 16) := by kernel_rfl
theorem own_snoc {w : World} {base e : Nat} {v : Value} {l : List Bs} {n : Bs} (h : w.ownsRow base e 1 v (l.length + 1) (T l ++ [.string (S n)])) : w.ownsRow base e 1 v (l ++ [n]).length (T (l ++ [n])) := by
  rw [List.length_append, T_append]; exact h
theorem own_lt {w : World} {base e n : Nat} {ao : Option Addr} {cap : Nat} {xs : List Value} (h : w.ownsRow base e 1 (.slice ao n cap) n xs) : ∀ a, ao = some a → base ≤ a.block := by
  rintro a rfl
  rcases h.2 with ⟨e1, _⟩ | ⟨g, c, cur, e1, h2, _⟩
  · simp at e1
  · simp only [Value.slice.injEq, Option.some.injEq] at e1
    rw [e1.1]; exact h2

/-- A slice of texts, of memory since w. -/
def TextsOut (w : World) (l : List Bs) (e : Ending) (w' : World) : Prop := ∃ ao' cap', e = .returned (.slice ao' l.length cap') ∧ RowT w' ao' l ∧ (∀ a, ao' = some a → w.heap.size ≤ a.block) ∧ Below w.heap.size w w'
end Go.Proofs.YtgbbajeeelgbhaaGreatDoor.Wb

namespace Go.Proofs.YtgbbajeeelgbhaaGreatDoor.Wk
open Go.RowKit Kt Pl Wi Wx
open At (RowT)
set_option linter.unusedVariables false

theorem Bx.set {w : World} {b : Nat} {cs : Array Value} {t : TypeId} (h : Bx w b cs t) (k : Nat) (v : Value) : Bx (w.setCell ⟨b, k, none⟩ v) b (cs.setIfInBounds k v) t := heap_setCell_same w b k cs t v h
theorem Bx.frozen {w : World} {b : Nat} {cs : Array Value} {t : TypeId} (h : Bx w b cs t) (k : Nat) : w.frozen? ⟨b, k, none⟩ = false := frozen_of_row w b k cs t h
theorem Bx.other {w : World} {b : Nat} {cs : Array Value} {t : TypeId} (h : Bx w b cs t) {p : Addr} (hp : p.block ≠ b) (v : Value) : Bx (w.setCell p v) b cs t := (heap_setCell_other w p b v (fun e => hp e.symm)).trans h
theorem Bx.row {w : World} {b : Nat} {cs old : Array Value} {t : TypeId} (h : Bx w b old t) (hs : old.size = cs.size) : Bx (w.setRow b cs) b cs t := setRow_heap w b old cs t (0, 0) h
theorem Bx.rowOther {w : World} {b g : Nat} {cs : Array Value} {t : TypeId} (h : Bx w b cs t) (hg : g ≠ b) (ds : Array Value) : Bx (w.setRow g ds) b cs t := (setRow_other w g b ds (fun e => hg e.symm)).trans h

theorem RowT.setCell {w : World} {ao : Option Addr} {l : List Bs} (h : RowT w ao l) {p : Addr} (hp : ∀ a, ao = some a → a.block ≠ p.block) (v : Value) : RowT (w.setCell p v) ao l := by
  intro hl
  obtain ⟨b, off, rfl, hc⟩ := h hl
  refine ⟨b, off, rfl, fun i hi => ?_⟩
  rw [World.cell?_setCell_other _ _ _ _ (fun e => hp _ rfl (by rw [e]))]
  exact hc i hi
theorem RowT.setRow {w : World} {ao : Option Addr} {l : List Bs} (h : RowT w ao l) {g : Nat} (hp : ∀ a, ao = some a → a.block ≠ g) (cs : Array Value) : RowT (w.setRow g cs) ao l := by
  intro hl
  obtain ⟨b, off, rfl, hc⟩ := h hl
  refine ⟨b, off, rfl, fun i hi => ?_⟩
  rw [World.cell?_of_block (w := w) (a := ⟨b, off + i, none⟩) (setRow_other w g b cs (hp _ rfl))]
  exact hc i hi
theorem below_setRow {B g : Nat} {a w : World} (h : Below B a w) (hg : B ≤ g) (cs : Array Value) : Below B a (w.setRow g cs) :=
  ⟨h.os, h.tape, h.output, by rw [setRow_size]; exact h.size, fun k hk => (setRow_other w g k cs (by omega)).trans (h.block k hk)⟩

section
variable {P : Program} {w : World} {ops : Array Oper} {rest : List Oper} {o : Oper} {a : Act} {Q : Exit → Act → World → Prop}
theorem run_st {ty : TypeId} {x y : Operand} {b : Nat} {cs old : Array Value} {t : TypeId} (ho : o.op = .store ty x y) (hx : a.eval x = .pointer (some ⟨b, 0, none⟩)) (hy : a.eval y = .agg cs) (hg : Bx w b old t) (hi : (P.info? ty).map (·.size) = some cs.size) (hold : old.size = cs.size) (h1 : cs.all (fun x => x.oneCell') = true) :
    (execOp a.eval o).run P w = .ok .skip (w.setRow b cs) ∨ (execOp a.eval o).run P w = .ok (.value undef) (w.setRow b cs) := by
  have hr := run_storeVar_row (P := P) w b t ty old cs hg hi hold h1
  unfold execOp
  simp only [ho, Instr.storeAt, Instr.sureAddr, hx, hy, Sem.run_bind, Sem.run_pure, Result.andThen_ok, hr]
  simp
theorem wpList_st (hgd : o.guard = none) {ty : TypeId} {x y : Operand} {b : Nat} {cs old : Array Value} {t : TypeId} (ho : o.op = .store ty x y) (hx : a.eval x = .pointer (some ⟨b, 0, none⟩)) (hy : a.eval y = .agg cs) (hg : Bx w b old t) (hi : (P.info? ty).map (·.size) = some cs.size) (hold : old.size = cs.size) (h1 : cs.all (fun x => x.oneCell') = true)
    (h : wpList P ops Q rest (a.put o.dst undef) (w.setRow b cs)) : wpList P ops Q (o :: rest) a w := by
  refine wpList_plain hgd fun _ hK => ?_
  unfold Oper.wp
  rcases run_st (P := P) ho hx hy hg hi hold h1 with e | e <;> rw [e] <;> exact hK _ _ h
theorem results_cell {fn : Func} {p : Tmp} {ty : TypeId} (h : fn.results = #[.cell p ty]) (tmps : Array Value) (P : Program) (w : World) :
    (results fn tmps).run P w = ((asAddr (tmps.getD p undef)).run P w).andThen fun a w₁ => (loadVar ty a).run P w₁ := by
  simp only [results, h]
  simp [Sem.run_bind, Result.andThen]
theorem ret_bx {fn : Func} {R : Ending → World → Prop} (p : Tmp) (ty : TypeId) (h : fn.results = #[.cell p ty]) (b : Nat) (hp : a.tmps.getD p undef = .pointer (some ⟨b, 0, none⟩)) {v : Value} (hl : (loadVar ty ⟨b, 0, none⟩).run P w = .ok v w) (hdf : a.defers = []) (hR : R (.returned v) w) : bodyPost P fn R .ret a w := by
  refine bodyPost_ret (v := v) ?_ hdf hR
  rw [results_cell h, hp]
  simp [asAddr, Result.andThen, hl]
end
end Go.Proofs.YtgbbajeeelgbhaaGreatDoor.Wk

namespace Go.Proofs.YtgbbajeeelgbhaaGreatDoor.Wa
open Go.RowKit Kt Pl Wi Wk Wc Wd We Wx Wy
open At (RowT)
set_option linter.unusedVariables false
set_option linter.unusedSimpArgs false
set_option maxRecDepth 20000

section
variable {P : Program} {w : World} {ops : Array Oper} {rest : List Oper} {o : Oper} {a : Act} {Q : Exit → Act → World → Prop}
/-- A struct goes into a variable made just now. -/
theorem wpList_stn (hgd : o.guard = none) {ty : TypeId} {x y : Operand} {cs zs : Array Value} {t : TypeId} (ho : o.op = .store ty x y) (hx : a.eval x = .pointer (some ⟨w.heap.size, 0, none⟩)) (hy : a.eval y = .agg cs) (hi : (P.info? ty).map (·.size) = some cs.size) (hold : zs.size = cs.size) (h1 : cs.all (fun x => x.oneCell') = true)
    (h : ∀ W, Bx W w.heap.size cs t → Gr w W → wpList P ops Q rest (a.put o.dst undef) W) : wpList P ops Q (o :: rest) a (w.alloc (.cells zs t)) :=
  wpList_st hgd ho hx hy (Bx.new w zs t) hi hold h1 (h _ ((Bx.new w zs t).row hold) ⟨below_setRow ((Below.refl _ _).alloc (Nat.le_refl _) _) (Nat.le_refl _) _, Nat.le_refl _⟩)
theorem wpList_ldw {ty : TypeId} {x : Operand} {p : Addr} {v : Value} (hw : Region.wanted o (yielded ops a.tmps) = true) (ho : o.op = .load ty x) (hx : a.eval x = .pointer (some p)) (h : (loadVar ty p).run P w = .ok v w)
    (hk : wpList P ops Q rest (a.put o.dst v) w) : wpList P ops Q (o :: rest) a w := by
  refine wpList_step fun _ hK => ?_
  rw [if_pos hw]
  unfold Oper.wp
  rw [run_ld ho hx h]
  exact hK _ _ hk
end
theorem all1 (l : List Value) (h : ∀ u ∈ l, u.oneCell' = true) : l.toArray.all (fun x => x.oneCell') = true := by rw [List.all_toArray, List.all_eq_true]; exact h

theorem rightG_all (g : Gt) : rightG g = (rcB g.rc && [g.sent].all (upToB 1099511627776)) := by simp [rightG, numB]
theorem shortG_all (g : Gt) : shortG g = ([g.rc.g].all (fitB 32) && [g.body].all (fitB 128)) := by simp [shortG]

set_option maxHeartbeats 1000000 in
theorem rightGot_any (w : World) (g : Gt) : Calls Tryz.prog 378 #[.agg (gC g).toArray] w fun e w' => e = .returned (.bool (rightG g)) ∧ Gr w w' := by
  have HE := mkH (rightG_all g)
  have H1 := rightReceipt_any (w.alloc (.cells (gC g).toArray 155)) g.rc
  unfold gC at H1 ⊢
  cases hb : rcB g.rc
  · rw [hb] at H1
    have HF : Hid (rightG g = false) := mkH (by rw [HE.out, hb]; rfl)
    clear hb HE
    go_enter Tryz.func378, Tryz.ntmps378
    go_wp2_with fail
    refine H1.mono ?_
    rintro e w1 ⟨rfl, hg⟩
    have HG := mkH (((Gr.refl w).alloc _).trans hg)
    clear hg H1
    go_wp2
    go_ret
    exact ⟨ret_bool HF.out.symm, HG.out⟩
  · rw [hb] at H1
    have HF : Hid (rightG g = [g.sent].all (upToB 1099511627776)) := mkH (by rw [HE.out, hb]; rfl)
    clear hb HE
    go_enter Tryz.func378, Tryz.ntmps378
    go_wp2_with fail
    refine H1.mono ?_
    rintro e w1 ⟨rfl, hg⟩
    have hc5 : w1.cell? ⟨w.heap.size, 5, none⟩ = some (.int .i64 g.sent) := (Bx.gr (Bx.new w (gC g).toArray 155) hg).cell 5
    have HG := mkH (((Gr.refl w).alloc _).trans hg)
    clear hg H1
    go_wp2_with fail
    refine (upTo_at _ _ 1 1 [g.sent] rfl ?hr (by omega) 1099511627776).mono ?_
    case hr => exact RowI.at _ [g.sent] 3 _ (by simp)
    rintro e w2 ⟨rfl, rfl⟩
    go_wp2
    go_ret
    exact ⟨ret_bool (by rw [HF.out]; simp), (HG.out.alloc _).alloc _⟩

set_option maxHeartbeats 1000000 in
theorem shortGot_any (w : World) (g : Gt) : Calls Tryz.prog 380 #[.agg (gC g).toArray] w fun e w' => e = .returned (.bool (shortG g)) ∧ Gr w w' := by
  have HE := mkH (shortG_all g)
  unfold gC
  cases hb : [g.rc.g].all (fitB 32)
  · have HF : Hid (shortG g = false) := mkH (by rw [HE.out, hb]; rfl)
    have HB := mkH hb
    clear hb HE
    go_enter Tryz.func380, Tryz.ntmps380
    go_wp2_with fail
    refine (fit_at _ _ 1 1 [g.rc.g] rfl ?hr (by omega) 32 32 rfl).mono ?_
    case hr => exact RowT.at _ [g.rc.g] 9 _ (by simp)
    rintro e w2 ⟨rfl, rfl⟩
    rw [HB.out]
    go_wp2
    go_ret
    exact ⟨ret_bool HF.out.symm, (((Gr.refl w).alloc _).alloc _).alloc _⟩
  · have HF : Hid (shortG g = [g.body].all (fitB 128)) := mkH (by rw [HE.out, hb]; rfl)
    have HB := mkH hb
    clear hb HE
    go_enter Tryz.func380, Tryz.ntmps380
    go_wp2_with fail
    refine (fit_at _ _ 1 1 [g.rc.g] rfl ?hr (by omega) 32 32 rfl).mono ?_
    case hr => exact RowT.at _ [g.rc.g] 9 _ (by simp)
    rintro e w2 ⟨rfl, rfl⟩
    rw [HB.out]
    have HG := mkH ((((Gr.refl w).alloc (.cells (gC g).toArray 155)).alloc (.cells #[.string (S g.rc.g)] 9)).alloc (.cells #[.int .i64 32] 3))
    go_wp2_with fail
    refine (fit_at _ _ 1 1 [g.body] rfl ?hr (by omega) 128 128 rfl).mono ?_
    case hr => exact RowT.at _ [g.body] 9 _ (by simp)
    rintro e w2 ⟨rfl, rfl⟩
    go_wp2
    go_ret
    exact ⟨ret_bool (by rw [HF.out]; simp), ((HG.out.alloc _).alloc _)⟩
theorem mayG_any (w : World) (r : Int × Int) : Calls Tryz.prog 136 #[.agg (rC r).toArray] w fun e w' => e = .returned (.bool (mayB r.1 r.2)) ∧ Gr w w' := may_any w r.1 r.2

set_option maxHeartbeats 2000000 in
theorem eachGr_any (p : Gt → Bool) (hf : ∀ W x, Calls Tryz.prog 378 #[.agg (gC x).toArray] W fun e w' => e = .returned (.bool (p x)) ∧ Gr W w') (w : World) (ao : Option Addr) (cap : Nat) (l : List (Gt)) (hr : RowG w ao l) (hlen : l.length ≤ 1000000000) :
    Calls Tryz.prog 377 #[.slice ao l.length cap, .func (Fn.func 378) #[] #[]] w fun e w' => e = .returned (.bool (l.all p)) ∧ Gr w w' := by
  have HR := mkH hr
  have HF := mkH hf
  clear hr hf
  go_enter Tryz.func377, Tryz.ntmps377
  go_wp2
  go_loopw [6, 9] (fun _ i wr => ∃ k : Nat, k ≤ l.length ∧ i = .int .i64 k ∧ Hid ((l.take k).all p = true) ∧ Hid (Gr w wr)) (fun _ i _ => l.length - (intOf i).toNat)
  case atStart => exact ⟨0, Nat.zero_le _, rfl, mkH (by simp), mkH (Gr.refl w)⟩
  case round =>
    obtain ⟨k, hk, rfl, HA, HG⟩ := hrel
    by_cases hlt : k < l.length
    · obtain ⟨b, off, hao, hcl⟩ := RowS.gr HR.out HG.out (by omega)
      obtain ⟨x, hx⟩ := some_of hlt
      have HLD := mkH (load_got (hcl k x hx))
      subst hao
      have HX := mkH hx
      have HONE := mkH (all1 _ (gC_one x))
      have HI : Hid ((Tryz.prog.info? 155).map (·.size) = some (gC x).toArray.size) := mkH infoG
      clear hcl hx
      cases hb : p x
      · have HE : Hid (l.all p = false) := mkH (all_false HX.out hb)
        have HPX := mkH hb
        clear hb HX
        go_wp2_with (first
          | (refine wpList_ld (ty := 155) (x := .tmp 11) rfl rfl rfl HLD.out ?_)
          | (refine wpList_stn (x := .tmp 6) (y := .tmp 12) rfl rfl rfl rfl HI.out rfl HONE.out ?_; intro W2 hB2 hG2; have HB2 := mkH hB2; have HG2 := mkH (HG.out.trans hG2); clear hB2 hG2)
          | (refine wpList_ld (ty := 155) (x := .tmp 6) rfl rfl rfl (load_bx HB2.out Tryz.underlying155 rfl HI.out) ?_))
        refine (HF.out W2 x).mono ?_
        rintro e w1 ⟨rfl, hg1⟩
        rw [HPX.out]
        have HG1 := mkH (HG2.out.trans hg1)
        clear hg1 HG2
        go_wp2
        go_ret
        exact ⟨ret_bool HE.out.symm, HG1.out⟩
      · have HN : Hid ((l.take (k + 1)).all p = true) := mkH (by rw [all_take _ _ _ _ HX.out, HA.out, hb]; rfl)
        have HPX := mkH hb
        clear hb HX HA
        go_wp2_with (first
          | (refine wpList_ld (ty := 155) (x := .tmp 11) rfl rfl rfl HLD.out ?_)
          | (refine wpList_stn (x := .tmp 6) (y := .tmp 12) rfl rfl rfl rfl HI.out rfl HONE.out ?_; intro W2 hB2 hG2; have HB2 := mkH hB2; have HG2 := mkH (HG.out.trans hG2); clear hB2 hG2)
          | (refine wpList_ld (ty := 155) (x := .tmp 6) rfl rfl rfl (load_bx HB2.out Tryz.underlying155 rfl HI.out) ?_))
        refine (HF.out W2 x).mono ?_
        rintro e w1 ⟨rfl, hg1⟩
        rw [HPX.out]
        have HG1 := mkH (HG2.out.trans hg1)
        clear hg1 HG2
        go_wp2
        go_roundw
        case rel => exact ⟨k + 1, by omega, by go_num, HN, HG1⟩
        case measure => simp [intOf]; omega
    · have HE : Hid (l.all p = true) := mkH (by have := HA.out; rwa [List.take_of_length_le (by omega)] at this)
      clear HA
      go_wp2
      go_ret
      exact ⟨ret_bool HE.out.symm, HG.out⟩

set_option maxHeartbeats 2000000 in
theorem eachGs_any (p : Gt → Bool) (hf : ∀ W x, Calls Tryz.prog 380 #[.agg (gC x).toArray] W fun e w' => e = .returned (.bool (p x)) ∧ Gr W w') (w : World) (ao : Option Addr) (cap : Nat) (l : List (Gt)) (hr : RowG w ao l) (hlen : l.length ≤ 1000000000) :
    Calls Tryz.prog 377 #[.slice ao l.length cap, .func (Fn.func 380) #[] #[]] w fun e w' => e = .returned (.bool (l.all p)) ∧ Gr w w' := by
  have HR := mkH hr
  have HF := mkH hf
  clear hr hf
  go_enter Tryz.func377, Tryz.ntmps377
  go_wp2
  go_loopw [6, 9] (fun _ i wr => ∃ k : Nat, k ≤ l.length ∧ i = .int .i64 k ∧ Hid ((l.take k).all p = true) ∧ Hid (Gr w wr)) (fun _ i _ => l.length - (intOf i).toNat)
  case atStart => exact ⟨0, Nat.zero_le _, rfl, mkH (by simp), mkH (Gr.refl w)⟩
  case round =>
    obtain ⟨k, hk, rfl, HA, HG⟩ := hrel
    by_cases hlt : k < l.length
    · obtain ⟨b, off, hao, hcl⟩ := RowS.gr HR.out HG.out (by omega)
      obtain ⟨x, hx⟩ := some_of hlt
      have HLD := mkH (load_got (hcl k x hx))
      subst hao
      have HX := mkH hx
      have HONE := mkH (all1 _ (gC_one x))
      have HI : Hid ((Tryz.prog.info? 155).map (·.size) = some (gC x).toArray.size) := mkH infoG
      clear hcl hx
      cases hb : p x
      · have HE : Hid (l.all p = false) := mkH (all_false HX.out hb)
        have HPX := mkH hb
        clear hb HX
        go_wp2_with (first
          | (refine wpList_ld (ty := 155) (x := .tmp 11) rfl rfl rfl HLD.out ?_)
          | (refine wpList_stn (x := .tmp 6) (y := .tmp 12) rfl rfl rfl rfl HI.out rfl HONE.out ?_; intro W2 hB2 hG2; have HB2 := mkH hB2; have HG2 := mkH (HG.out.trans hG2); clear hB2 hG2)
          | (refine wpList_ld (ty := 155) (x := .tmp 6) rfl rfl rfl (load_bx HB2.out Tryz.underlying155 rfl HI.out) ?_))
        refine (HF.out W2 x).mono ?_
        rintro e w1 ⟨rfl, hg1⟩
        rw [HPX.out]
        have HG1 := mkH (HG2.out.trans hg1)
        clear hg1 HG2
        go_wp2
        go_ret
        exact ⟨ret_bool HE.out.symm, HG1.out⟩
      · have HN : Hid ((l.take (k + 1)).all p = true) := mkH (by rw [all_take _ _ _ _ HX.out, HA.out, hb]; rfl)
        have HPX := mkH hb
        clear hb HX HA
        go_wp2_with (first
          | (refine wpList_ld (ty := 155) (x := .tmp 11) rfl rfl rfl HLD.out ?_)
          | (refine wpList_stn (x := .tmp 6) (y := .tmp 12) rfl rfl rfl rfl HI.out rfl HONE.out ?_; intro W2 hB2 hG2; have HB2 := mkH hB2; have HG2 := mkH (HG.out.trans hG2); clear hB2 hG2)
          | (refine wpList_ld (ty := 155) (x := .tmp 6) rfl rfl rfl (load_bx HB2.out Tryz.underlying155 rfl HI.out) ?_))
        refine (HF.out W2 x).mono ?_
        rintro e w1 ⟨rfl, hg1⟩
        rw [HPX.out]
        have HG1 := mkH (HG2.out.trans hg1)
        clear hg1 HG2
        go_wp2
        go_roundw
        case rel => exact ⟨k + 1, by omega, by go_num, HN, HG1⟩
        case measure => simp [intOf]; omega
    · have HE : Hid (l.all p = true) := mkH (by have := HA.out; rwa [List.take_of_length_le (by omega)] at this)
      clear HA
      go_wp2
      go_ret
      exact ⟨ret_bool HE.out.symm, HG.out⟩

set_option maxHeartbeats 2000000 in
theorem eachR_any (p : Int × Int → Bool) (hf : ∀ W x, Calls Tryz.prog 136 #[.agg (rC x).toArray] W fun e w' => e = .returned (.bool (p x)) ∧ Gr W w') (w : World) (ao : Option Addr) (cap : Nat) (l : List (Int × Int)) (hr : RowR w ao l) (hlen : l.length ≤ 1000000000) :
    Calls Tryz.prog 379 #[.slice ao l.length cap, .func (Fn.func 136) #[] #[]] w fun e w' => e = .returned (.bool (l.all p)) ∧ Gr w w' := by
  have HR := mkH hr
  have HF := mkH hf
  clear hr hf
  go_enter Tryz.func379, Tryz.ntmps379
  go_wp2
  go_loopw [6, 9] (fun _ i wr => ∃ k : Nat, k ≤ l.length ∧ i = .int .i64 k ∧ Hid ((l.take k).all p = true) ∧ Hid (Gr w wr)) (fun _ i _ => l.length - (intOf i).toNat)
  case atStart => exact ⟨0, Nat.zero_le _, rfl, mkH (by simp), mkH (Gr.refl w)⟩
  case round =>
    obtain ⟨k, hk, rfl, HA, HG⟩ := hrel
    by_cases hlt : k < l.length
    · obtain ⟨b, off, hao, hcl⟩ := RowS.gr HR.out HG.out (by omega)
      obtain ⟨x, hx⟩ := some_of hlt
      have HLD := mkH (load_rng (hcl k x hx))
      subst hao
      have HX := mkH hx
      have HONE := mkH (all1 _ (rC_one x))
      have HI : Hid ((Tryz.prog.info? 37).map (·.size) = some (rC x).toArray.size) := mkH infoR
      clear hcl hx
      cases hb : p x
      · have HE : Hid (l.all p = false) := mkH (all_false HX.out hb)
        have HPX := mkH hb
        clear hb HX
        go_wp2_with (first
          | (refine wpList_ld (ty := 37) (x := .tmp 11) rfl rfl rfl HLD.out ?_)
          | (refine wpList_stn (x := .tmp 6) (y := .tmp 12) rfl rfl rfl rfl HI.out rfl HONE.out ?_; intro W2 hB2 hG2; have HB2 := mkH hB2; have HG2 := mkH (HG.out.trans hG2); clear hB2 hG2)
          | (refine wpList_ld (ty := 37) (x := .tmp 6) rfl rfl rfl (load_bx HB2.out Tryz.underlying37 rfl HI.out) ?_))
        refine (HF.out W2 x).mono ?_
        rintro e w1 ⟨rfl, hg1⟩
        rw [HPX.out]
        have HG1 := mkH (HG2.out.trans hg1)
        clear hg1 HG2
        go_wp2
        go_ret
        exact ⟨ret_bool HE.out.symm, HG1.out⟩
      · have HN : Hid ((l.take (k + 1)).all p = true) := mkH (by rw [all_take _ _ _ _ HX.out, HA.out, hb]; rfl)
        have HPX := mkH hb
        clear hb HX HA
        go_wp2_with (first
          | (refine wpList_ld (ty := 37) (x := .tmp 11) rfl rfl rfl HLD.out ?_)
          | (refine wpList_stn (x := .tmp 6) (y := .tmp 12) rfl rfl rfl rfl HI.out rfl HONE.out ?_; intro W2 hB2 hG2; have HB2 := mkH hB2; have HG2 := mkH (HG.out.trans hG2); clear hB2 hG2)
          | (refine wpList_ld (ty := 37) (x := .tmp 6) rfl rfl rfl (load_bx HB2.out Tryz.underlying37 rfl HI.out) ?_))
        refine (HF.out W2 x).mono ?_
        rintro e w1 ⟨rfl, hg1⟩
        rw [HPX.out]
        have HG1 := mkH (HG2.out.trans hg1)
        clear hg1 HG2
        go_wp2
        go_roundw
        case rel => exact ⟨k + 1, by omega, by go_num, HN, HG1⟩
        case measure => simp [intOf]; omega
    · have HE : Hid (l.all p = true) := mkH (by have := HA.out; rwa [List.take_of_length_le (by omega)] at this)
      clear HA
      go_wp2
      go_ret
      exact ⟨ret_bool HE.out.symm, HG.out⟩
end Go.Proofs.YtgbbajeeelgbhaaGreatDoor.Wa
