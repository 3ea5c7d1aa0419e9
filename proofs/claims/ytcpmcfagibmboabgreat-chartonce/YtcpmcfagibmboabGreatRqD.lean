/-
  WiR WiX WiC WiD WiE WiF, joined by mrg.py.
-/
import Derived.Deep.RegionHeld3
import Derived.Deep.QuietTactic
import Derived.Test.YtcpmcfagibmboabGreatRqC

namespace Go.Proofs.YtcpmcfagibmboabGreat.Wx
open Go
set_option linter.unusedVariables false

def unl (l : Array Bool) : Nat := l.toList.countP (fun b => !b)
theorem countP_set : ∀ (l : List Bool) (i : Nat), l[i]? = some false → (l.set i true).countP (fun b => !b) + 1 = l.countP (fun b => !b)
  | [], i, h => by simp at h
  | b :: l, 0, h => by simp at h; subst h; simp
  | b :: l, i + 1, h => by
    have := countP_set l i (by simpa using h)
    simp only [List.set_cons_succ, List.countP_cons]
    omega
theorem unl_set {l : Array Bool} {i : Nat} (h : l[i]? = some false) : unl (l.setIfInBounds i true) + 1 = unl l := by
  unfold unl
  rw [Array.toList_setIfInBounds]
  exact countP_set l.toList i (by simpa using h)
theorem getD_false {l : Array Bool} {i : Nat} (h : l.getD i true = false) : l[i]? = some false := by
  by_cases hi : i < l.size
  · rw [Array.getElem?_eq_getElem hi]; simp [Array.getD, hi] at h; rw [h]
  · simp [Array.getD, hi] at h
theorem getD_true {l : Array Bool} {i : Nat} (h : l.getD i false = true) : l[i]? = some true := by
  by_cases hi : i < l.size
  · rw [Array.getElem?_eq_getElem hi]; simp [Array.getD, hi] at h; rw [h]
  · simp [Array.getD, hi] at h

section
variable {P : Program} {ops : Array Oper} {Q : Exit → Act → World → Prop} {S : World → Prop} {md : Region.Mode}

theorem ready_nil {listed : Array Bool} (h : unl listed = 0) : Region.ready md ops listed = [] := by
  apply List.eq_nil_iff_forall_not_mem.2
  intro i hi
  have h1 := getD_false (mem_ready.1 hi).1
  have := unl_set h1
  omega

/-- Whatever order: what is kept by each operation that may come. -/
theorem wpAnyH_inv (Inv : Array Bool → Act → World → Prop)
    (step : ∀ listed a w, Inv listed a w → S w → ∀ i ∈ Region.ready md ops listed, wpOp P ops Q i (fun a' w' => S w' ∧ Inv (listed.setIfInBounds i true) a' w') a w)
    (fin : ∀ listed a w, Inv listed a w → S w → Region.ready md ops listed = [] → Q .normal a w) :
    ∀ (fuel : Nat) (listed : Array Bool) (a : Act) (w : World), unl listed ≤ fuel → Inv listed a w → S w → wpAnyH P md ops Q S fuel listed a w
  | 0, listed, a, w, hf, hI, hS => ⟨ready_nil (by omega), fin listed a w hI hS (ready_nil (by omega))⟩
  | fuel + 1, listed, a, w, hf, hI, hS => by
    refine ⟨fun h => fin listed a w hI hS h, fun i hi => ?_⟩
    have h1 := unl_set (getD_false (mem_ready.1 hi).1)
    exact wpOp_mono (fun a' w' h => ⟨h.1, wpAnyH_inv Inv step fin fuel _ a' w' (by omega) h.2 h.1⟩) (step listed a w hI hS i hi)

/-- A frame in which some slots hold what x says. -/
def puts (dst : Nat → Tmp) (a0 : Act) (x : Nat → Value) : List Nat → Act
  | [] => a0
  | i :: U => (puts dst a0 x U).put (some (dst i)) (x i)
theorem put_put (a : Act) (d : Tmp) (u v : Value) : (a.put (some d) u).put (some d) v = a.put (some d) v := by
  simp [Act.put, Array.setIfInBounds_setIfInBounds]
theorem put_comm (a : Act) {d e : Tmp} (u v : Value) (h : d ≠ e) : (a.put (some d) u).put (some e) v = (a.put (some e) v).put (some d) u :=
  Act.put_comm a u v (fun d' hd he => by cases hd; cases he; exact h rfl)
theorem puts_same {dst : Nat → Tmp} {a0 : Act} {x : Nat → Value} {j : Nat} {v : Value} : ∀ (U : List Nat), j ∉ U → puts dst a0 (fun k => if k = j then v else x k) U = puts dst a0 x U
  | [], _ => rfl
  | i :: U, h => by
    rw [List.mem_cons, not_or] at h
    unfold puts
    rw [puts_same U h.2]
    simp [show i ≠ j from fun e => h.1 e.symm]
theorem puts_put {dst : Nat → Tmp} {a0 : Act} {x : Nat → Value} {j : Nat} {v : Value} : ∀ (U : List Nat), j ∈ U → U.Nodup → (∀ i ∈ U, ∀ k ∈ U, dst i = dst k → i = k) →
    (puts dst a0 x U).put (some (dst j)) v = puts dst a0 (fun k => if k = j then v else x k) U
  | [], h, _, _ => by cases h
  | i :: U, h, hn, hd => by
    rw [List.nodup_cons] at hn
    by_cases hij : i = j
    · subst hij
      simp only [puts]
      rw [put_put, puts_same U hn.1]
      simp
    · have hj : j ∈ U := by
        rcases List.mem_cons.1 h with h | h
        · exact absurd h.symm hij
        · exact h
      simp only [puts]
      rw [put_comm _ _ _ (fun e => hij (hd i (by simp) j (by simp [hj]) e)), puts_put U hj hn.2 (fun a ha b hb => hd a (by simp [ha]) b (by simp [hb]))]
      simp [hij]

/-- What is asked of a region's shape: all but U has come; who takes what; those that write come one behind the other. -/
def shape (md : Region.Mode) (ops : Array Oper) (U : List Nat) (dst cons : Nat → Nat) (deps : Nat → List Nat) (isW : Nat → Bool) (pre : List Nat) (listed : Array Bool) : Bool :=
  (List.range listed.size).all (fun j => U.contains j || listed[j]? == some true) &&
  U.all (fun i => (if pre.contains i then listed[i]? == some true && (!isW i || U.all (fun k => !isW k || !decide (k < i))) else listed[i]? == some false) && U.all (fun k => dst i != dst k || i == k) && (deps i).all (fun d => U.contains d && cons d == i && ((ops[i]?).map fun o => o.after.toList.any fun e => Region.binds md e && e.on == d).getD false)) &&
  U.all (fun j => !isW j || U.all (fun i => !isW i || !decide (i < j) || ((deps j).any (fun p => isW p && decide (i ≤ p)) && decide (cons i ≤ j) && isW (cons i) && U.contains (cons i)))) &&
  U.all (fun i => ((ops[i]?).map fun o => o.after.toList.all fun e => decide (e.on < i)).getD false)

/-- Whatever order comes: each operation finds what it takes, and leaves what it makes. -/
theorem wpAnyH_linear (U : List Nat) (dst cons : Nat → Nat) (deps : Nat → List Nat) (isW : Nat → Bool) (pre : List Nat) (F : Nat → Value → World → Prop) (R0 R1 : World → World → Prop) (a0 : Act) (x0 : Nat → Value) (listed0 : Array Bool) (w0 : World) (fuel : Nat)
    (hU : U.Nodup) (hsh : shape md ops U dst cons deps isW pre listed0 = true)
    (s0 : ∀ i ∈ U, ∀ v w w', F i v w → R0 w w' → F i v w') (s1 : ∀ i ∈ U, isW i = false → ∀ v w w', F i v w → R1 w w' → F i v w')
    (step : ∀ i ∈ U, i ∉ pre → ∀ x w, S w → (∀ d ∈ deps i, F d (x d) w) → wpOp P ops Q i (fun a' w' => ∃ v, a' = (puts dst a0 x U).put (some (dst i)) v ∧ S w' ∧ F i v w' ∧ (if isW i then R1 w w' else R0 w w')) (puts dst a0 x U) w)
    (fin : ∀ x w, S w → (∀ i ∈ U, cons i ∉ U → F i (x i) w) → Q .normal (puts dst a0 x U) w)
    (hpre : ∀ i ∈ pre, F i (x0 i) w0) (hf : unl listed0 ≤ fuel) (hS : S w0) (hc : ∀ i ∈ U, cons i ∉ U → ops.size ≤ cons i) (hz : listed0.size = ops.size) : wpAnyH P md ops Q S fuel listed0 (puts dst a0 x0 U) w0 := by
  simp only [shape, Bool.and_eq_true, List.all_eq_true, List.mem_range, Bool.or_eq_true, List.contains_iff_mem, beq_iff_eq, Bool.not_eq_true', List.any_eq_true, decide_eq_true_eq, decide_eq_false_iff_not, bne_iff_ne, ne_eq] at hsh
  obtain ⟨⟨⟨g1, g2⟩, g3⟩, g4⟩ := hsh
  have hin : ∀ i ∈ U, (i ∈ pre ∧ listed0[i]? = some true ∧ (isW i = true → ∀ k ∈ U, isW k = true → ¬ k < i)) ∨ (i ∉ pre ∧ listed0[i]? = some false) := fun i hi => by
    have h1 := (g2 i hi).1.1
    by_cases hp : i ∈ pre
    · left
      rw [if_pos hp] at h1
      simp only [Bool.and_eq_true, beq_iff_eq, Bool.or_eq_true, Bool.not_eq_true', List.all_eq_true, decide_eq_false_iff_not] at h1
      refine ⟨hp, h1.1, fun hw k hk hwk => ?_⟩
      rcases h1.2 with h | h
      · rw [hw] at h; cases h
      · rcases h k hk with h | h
        · rw [hwk] at h; cases h
        · exact h
    · right
      rw [if_neg hp] at h1
      exact ⟨hp, by simpa using h1⟩
  have hd : ∀ i ∈ U, ∀ k ∈ U, dst i = dst k → i = k := fun i hi k hk e => (((g2 i hi).1.2) k hk).resolve_left (fun h => h e)
  have hdep : ∀ i ∈ U, ∀ d ∈ deps i, d ∈ U ∧ cons d = i ∧ ((ops[i]?).map fun o => o.after.toList.any fun e => Region.binds md e && e.on == d).getD false = true := fun i hi d hd => by
    have := (g2 i hi).2 d hd
    exact ⟨this.1.1, this.1.2, this.2⟩
  have hwr : ∀ j ∈ U, isW j = true → ∀ i ∈ U, isW i = true → i < j → (∃ p ∈ deps j, isW p = true ∧ i ≤ p) ∧ cons i ≤ j ∧ isW (cons i) = true ∧ cons i ∈ U := fun j hj wj i hi wi hij => by
    rcases g3 j hj with h | h
    · rw [wj] at h; cases h
    · rcases h i hi with (h | h) | h
      · rw [wi] at h; cases h
      · exact absurd hij h
      · exact ⟨h.1.1.1, h.1.1.2, h.1.2, h.2⟩
  refine wpAnyH_inv (fun listed a w => ∃ x, a = puts dst a0 x U ∧ listed.size = ops.size ∧ (∀ j, j ∉ U → listed[j]? = listed0[j]?) ∧ (∀ i ∈ U, listed[i]? = some true → listed[cons i]? ≠ some true → F i (x i) w) ∧
      (∀ i ∈ U, ∀ j ∈ U, isW i = true → isW j = true → i < j → listed[j]? = some true → listed[i]? = some true) ∧ (∀ i ∈ U, i ∈ pre → listed[i]? = some true)) ?_ ?_ fuel listed0 _ w0 hf ?_ hS
  · rintro listed a w ⟨x, rfl, hsz, hout, hfact, hcl, hpl⟩ hSw i hi
    obtain ⟨hun, o, ho, haft⟩ := mem_ready.1 hi
    have hun := getD_false hun
    have hilt : i < listed.size := (Array.getElem?_eq_some_iff.1 hun).1
    have hiU : i ∈ U := by
      rcases g1 i (by rw [hz]; omega) with h | h
      · exact h
      · by_cases hiU : i ∈ U
        · exact hiU
        · rw [hout i hiU, h] at hun; cases hun
    have hdl : ∀ d ∈ deps i, listed[d]? = some true := fun d hdm => by
      have h3 := (hdep i hiU d hdm).2.2
      rw [ho] at h3
      simp only [Option.map_some, Option.getD_some, List.any_eq_true, Bool.and_eq_true, beq_iff_eq] at h3
      obtain ⟨e, he, hb, rfl⟩ := h3
      exact getD_true (haft e (by simpa using he) hb)
    have hFd : ∀ d ∈ deps i, F d (x d) w := fun d hdm => by
      have h3 := hdep i hiU d hdm
      refine hfact d h3.1 (hdl d hdm) ?_
      rw [h3.2.1, hun]; simp
    have hip : i ∉ pre := fun h => by have := hpl i hiU h; rw [hun] at this; cases this
    refine wpOp_mono ?_ (step i hiU hip x w hSw hFd)
    rintro a' w' ⟨v, rfl, hS', hFi, hR⟩
    have hset : ∀ k, (listed.setIfInBounds i true)[k]? = if k = i then some true else listed[k]? := fun k => by
      by_cases hk : k = i
      · subst hk; rw [if_pos rfl, Array.getElem?_setIfInBounds_self_of_lt hilt]
      · rw [if_neg hk, Array.getElem?_setIfInBounds_ne (fun e => hk e.symm)]
    refine ⟨hS', fun k => if k = i then v else x k, puts_put U hiU hU hd, by simpa using hsz, fun j hj => ?_, fun k hk hkl hkc => ?_, fun i1 h1 j1 h2 w1 w2 hlt hl => ?_, fun i1 h1 h2 => ?_⟩
    · rw [hset, if_neg (fun (e : j = i) => hj (e ▸ hiU))]; exact hout j hj
    · rw [hset] at hkl hkc
      by_cases hki : k = i
      · subst hki; simpa using hFi
      · rw [if_neg hki] at hkl
        have hci : cons k ≠ i := fun e => by rw [if_pos e] at hkc; exact hkc rfl
        rw [if_neg hci] at hkc
        have hF := hfact k hk hkl hkc
        simp only [hki, if_false]
        cases hwi : isW i with
        | false => rw [hwi] at hR; exact s0 k hk _ _ _ hF (by simpa using hR)
        | true =>
          rw [hwi] at hR
          cases hwk : isW k with
          | false => exact s1 k hk hwk _ _ _ hF (by simpa using hR)
          | true =>
            exfalso
            rcases Nat.lt_or_ge k i with hlt | hge
            · obtain ⟨⟨p, hp, wp, hkp⟩, -⟩ := hwr i hiU hwi k hk hwk hlt
              have hpl := hdl p hp
              have hpU := (hdep i hiU p hp).1
              rcases Nat.lt_or_ge k p with h | h
              · obtain ⟨-, hcp, hcw, hcU⟩ := hwr p hpU wp k hk hwk h
                rcases Nat.lt_or_ge (cons k) p with h5 | h5
                · exact hkc (hcl (cons k) hcU p hpU hcw wp h5 hpl)
                · have : cons k = p := by omega
                  rw [this] at hkc; exact hkc hpl
              · have : k = p := by omega
                subst this
                exact hci (hdep i hiU k hp).2.1
            · have := hcl i hiU k hk hwi hwk (by omega) hkl
              rw [hun] at this; cases this
    · rw [hset] at hl ⊢
      by_cases h3 : i1 = i
      · rw [if_pos h3]
      · rw [if_neg h3]
        by_cases h4 : j1 = i
        · subst h4
          obtain ⟨⟨p, hp, wp, hkp⟩, -⟩ := hwr j1 h2 w2 i1 h1 w1 hlt
          rcases Nat.lt_or_ge i1 p with h | h
          · exact hcl i1 h1 p (hdep j1 h2 p hp).1 w1 wp h (hdl p hp)
          · have : i1 = p := by omega
            rw [this]; exact hdl p hp
        · rw [if_neg h4] at hl
          exact hcl i1 h1 j1 h2 w1 w2 hlt hl
    · rw [hset]
      by_cases h3 : i1 = i
      · rw [if_pos h3]
      · rw [if_neg h3]; exact hpl i1 h1 h2
  · rintro listed a w ⟨x, rfl, hsz, hout, hfact, hcl, hpl⟩ hSw hrd
    have hall : ∀ n i, i < n → i < listed.size → listed[i]? = some true := by
      intro n
      induction n with
      | zero => intro i hi; omega
      | succ n ih =>
        intro i hi hl
        by_cases hiU : i ∈ U
        · by_cases ht : listed[i]? = some true
          · exact ht
          · exfalso
            have hfalse : listed[i]? = some false := by
              rw [Array.getElem?_eq_getElem hl] at ht ⊢
              cases hb : listed[i] with
              | true => rw [hb] at ht; exact absurd rfl ht
              | false => rfl
            have ho : ops[i]? = some ops[i] := Array.getElem?_eq_getElem (by omega)
            have h4 := g4 i hiU
            rw [ho] at h4
            simp only [Option.map_some, Option.getD_some, List.all_eq_true, decide_eq_true_eq] at h4
            have : i ∈ Region.ready md ops listed := mem_ready.2 ⟨by simp [Array.getD, hl, (Array.getElem?_eq_some_iff.1 hfalse).2], ops[i], ho, fun e he hb => by
              have h5 := h4 e (by simpa using he)
              have h6 := ih e.on (by omega) (by omega)
              obtain ⟨h7, h8⟩ := Array.getElem?_eq_some_iff.1 h6
              simp [Array.getD, h7, h8]⟩
            rw [hrd] at this
            cases this
        · rw [hout i hiU]
          rcases g1 i (by omega) with h | h
          · exact absurd h hiU
          · exact h
    refine fin x w hSw (fun i hi hci => hfact i hi (hall (i + 1) i (by omega) ?_) ?_)
    · rcases hin i hi with h | h
      · have := (Array.getElem?_eq_some_iff.1 h.2.1).1; omega
      · have := (Array.getElem?_eq_some_iff.1 h.2).1; omega
    · rw [Array.getElem?_eq_none (by have := hc i hi hci; omega)]; simp
  · refine ⟨x0, rfl, hz, fun _ _ => rfl, fun i hi hl _ => ?_, fun i hi j hj hwi hwj hij hl => ?_, fun i hi hp => ?_⟩
    · rcases hin i hi with h | h
      · exact hpre i h.1
      · rw [h.2] at hl; cases hl
    · rcases hin j hj with h | h
      · exact absurd hij (h.2.2 hwj i hi hwi)
      · rw [h.2] at hl; cases hl
    · rcases hin i hi with h | h
      · exact h.2.1
      · exact absurd hp h.1

theorem put_self (a : Act) (d : Tmp) : a.put (some d) (a.tmps.getD d undef) = a := by
  cases a with
  | mk tmps defers =>
    simp only [Act.put, Act.mk.injEq, and_true]
    apply Array.ext_getElem?
    intro k
    by_cases hk : d = k
    · subst hk
      by_cases hl : d < tmps.size
      · rw [Array.getElem?_setIfInBounds_self_of_lt hl]; simp [Array.getD, hl]
      · rw [Array.getElem?_eq_none (by simpa using hl), Array.getElem?_eq_none (by simpa using hl)]
    · rw [Array.getElem?_setIfInBounds_ne hk]
theorem puts_self (dst : Nat → Tmp) (a : Act) : ∀ U : List Nat, puts dst a (fun i => a.tmps.getD (dst i) undef) U = a
  | [] => rfl
  | i :: U => by unfold puts; rw [puts_self dst a U, put_self]
theorem wpAnyH_lin {fuel : Nat} {listed0 : Array Bool} {a : Act} {w0 : World} (U : List Nat) (dst cons : Nat → Nat) (deps : Nat → List Nat) (isW : Nat → Bool) (pre : List Nat) (F : Nat → Value → World → Prop) (R0 R1 : World → World → Prop)
    (hU : U.Nodup) (hsh : shape md ops U dst cons deps isW pre listed0 = true)
    (s0 : ∀ i ∈ U, ∀ v w w', F i v w → R0 w w' → F i v w') (s1 : ∀ i ∈ U, isW i = false → ∀ v w w', F i v w → R1 w w' → F i v w')
    (step : ∀ i ∈ U, i ∉ pre → ∀ x w, S w → (∀ d ∈ deps i, F d (x d) w) → wpOp P ops Q i (fun a' w' => ∃ v, a' = (puts dst a x U).put (some (dst i)) v ∧ S w' ∧ F i v w' ∧ (if isW i then R1 w w' else R0 w w')) (puts dst a x U) w)
    (fin : ∀ x w, S w → (∀ i ∈ U, cons i ∉ U → F i (x i) w) → Q .normal (puts dst a x U) w)
    (hpre : ∀ i ∈ pre, F i (a.tmps.getD (dst i) undef) w0) (hf : unl listed0 ≤ fuel) (hS : S w0) (hc : ∀ i ∈ U, cons i ∉ U → ops.size ≤ cons i) (hz : listed0.size = ops.size) : wpAnyH P md ops Q S fuel listed0 a w0 := by
  have := wpAnyH_linear (P := P) (Q := Q) (S := S) (md := md) U dst cons deps isW pre F R0 R1 a (fun i => a.tmps.getD (dst i) undef) listed0 w0 fuel hU hsh s0 s1 step fin hpre hf hS hc hz
  rwa [puts_self] at this

theorem wanted_plain {o : Oper} {f : Nat → Option Bool} (hg : o.guard = none) : Region.wanted o f = true := by simp [Region.wanted, hg]
theorem op_value {i : Nat} {o : Oper} {a : Act} {w w' : World} {v : Value} {K : Act → World → Prop} (ho : ops[i]? = some o) (hg : o.guard = none) (hrun : (execOp a.eval o).run P w = .ok (.value v) w') (hK : K (a.put o.dst v) w') : wpOp P ops Q i K a w := by
  refine wpOp_step ho (fun K' hK' => ?_)
  rw [if_pos (wanted_plain hg)]
  unfold Oper.wp
  rw [hrun]
  exact hK' _ _ hK
theorem op_call {i : Nat} {o : Oper} {a : Act} {w : World} {f : FuncId} {args : Array Value} {K : Act → World → Prop} (ho : ops[i]? = some o) (hg : o.guard = none) (hrun : (execOp a.eval o).run P w = .ok (.enter f args) w)
    (H : Calls P f args w fun e w' => ∃ v, e = .returned v ∧ K (a.put o.dst v) w') : wpOp P ops Q i K a w := by
  refine wpOp_step ho (fun K' hK' => ?_)
  rw [if_pos (wanted_plain hg)]
  unfold Oper.wp
  rw [hrun]
  refine Calls.mono H ?_
  rintro e w' ⟨v, rfl, h⟩
  exact hK' _ _ h
/-- One operation that yields its value in every world of the class. -/
theorem q_yield {C : World → Prop} {Q : Act → Prop} {a : Act} {o : Oper} {rest : List Oper} {v : Value} (hw : Region.wanted o (yielded ops a.tmps) = true) (hrun : ∀ w, C w → (execOp a.eval o).run P w = .ok (.value v) w)
    (h : wpQuiet P ops C Q rest (a.put o.dst v)) : wpQuiet P ops C Q (o :: rest) a := by
  unfold wpQuiet
  rw [if_pos hw]
  refine ⟨v, fun w hC => ?_, h⟩
  unfold Oper.quietAt
  rw [hrun w hC]
  exact ⟨rfl, rfl⟩
theorem run_ld {o : Oper} {a : Act} {ty : TypeId} {x : Operand} {p : Addr} {v : Value} {w : World} (ho : o.op = .load ty x) (hx : a.eval x = .pointer (some p)) (h : (loadVar ty p).run P w = .ok v w) : (execOp a.eval o).run P w = .ok (.value v) w := by
  unfold execOp
  simp only [ho, Instr.loadAt, Instr.sureAddr, hx, Sem.run_bind, Sem.run_pure, Result.andThen_ok, h]
end
end Go.Proofs.YtcpmcfagibmboabGreat.Wx

namespace Go.Proofs.YtcpmcfagibmboabGreat.Wv
open Go.RowKit Kt Pl Wi Wk Ww Wx
open At (RowT okT)
set_option linter.unusedVariables false
set_option linter.unusedSimpArgs false
set_option maxRecDepth 20000

def dstR : Nat → Nat := fun i => if i = 0 then 5 else if i = 3 then 8 else if i = 4 then 9 else if i = 7 then 12 else if i = 8 then 13 else if i = 13 then 18 else if i = 14 then 19 else 4
def consR : Nat → Nat := fun i => if i = 0 then 4 else if i = 3 then 4 else if i = 4 then 8 else if i = 7 then 8 else if i = 8 then 14 else if i = 13 then 14 else if i = 14 then 15 else 99
def depsR : Nat → List Nat := fun i => if i = 4 then [0, 3] else if i = 8 then [4, 7] else if i = 14 then [8, 13] else if i = 15 then [14] else []
def isWR : Nat → Bool := fun i => i == 0 || i == 4 || i == 8 || i == 14 || i == 15
/-- A row of numbers, of texts, that was built. -/
def BI (l : List Int) (v : Value) (w : World) : Prop := ∃ b, v = .slice (some ⟨b, 0, none⟩) l.length l.length ∧ Bx w b (Wk.I l).toArray 3
def BT (l : List Bs) (v : Value) (w : World) : Prop := ∃ b, v = .slice (some ⟨b, 0, none⟩) l.length l.length ∧ Bx w b (T l).toArray 9
theorem BI.gr {l : List Int} {v : Value} {w w' : World} (h : BI l v w) (hg : Gr w w') : BI l v w' := by obtain ⟨b, e, hb⟩ := h; exact ⟨b, e, hb.gr hg⟩
theorem BT.gr {l : List Bs} {v : Value} {w w' : World} (h : BT l v w) (hg : Gr w w') : BT l v w' := by obtain ⟨b, e, hb⟩ := h; exact ⟨b, e, hb.gr hg⟩
theorem BI.u8 {l : List Int} {v : Value} {w w' : World} (h : BI l v w) (hg : U8 w w') : BI l v w' := by obtain ⟨b, e, hb⟩ := h; exact ⟨b, e, Ww.Bx.u8 hb (by decide) hg⟩
theorem BT.u8 {l : List Bs} {v : Value} {w w' : World} (h : BT l v w) (hg : U8 w w') : BT l v w' := by obtain ⟨b, e, hb⟩ := h; exact ⟨b, e, Ww.Bx.u8 hb (by decide) hg⟩
def FR (base : Nat) (bs : Bs) (r : Rcp) : Nat → Value → World → Prop := fun i v w =>
  if i = 0 then Wt w base v bs else if i = 3 then BI [r.q] v w else if i = 4 then Wt w base v (bs ++ encN r.q) else if i = 7 then BT [r.g] v w
  else if i = 8 then Wt w base v (bs ++ encN r.q ++ encText r.g) else if i = 13 then BI [r.s, r.c] v w else Wt w base v (bs ++ encN r.q ++ encText r.g ++ (encN r.s ++ encN r.c))
/-- What holds all along: the box, and what is kept. -/
def SR (w0 : World) (base b0 : Nat) (C : Array Value) (t : TypeId) (w : World) : Prop := Bx w b0 C t ∧ Below base w0 w ∧ U8 w0 w
theorem SR.gr {w0 : World} {base b0 : Nat} {C : Array Value} {t : TypeId} {w w' : World} (h : SR w0 base b0 C t w) (hb : base ≤ w0.heap.size) (hg : Gr w w') : SR w0 base b0 C t w' :=
  ⟨h.1.gr hg, h.2.1.trans (below_down hg.below (Nat.le_trans hb h.2.1.size)), h.2.2.trans (U8.ofGr hg)⟩
theorem SR.wrote {w0 : World} {base b0 : Nat} {C : Array Value} {t : TypeId} {w w' : World} (h : SR w0 base b0 C t w) (ht : t ≠ 5) (hb : Below base w w') (hu : U8 w w') : SR w0 base b0 C t w' :=
  ⟨Ww.Bx.u8 h.1 ht hu, h.2.1.trans hb, h.2.2.trans hu⟩

theorem hmf : ∀ (fn : Fn) (first cap : Array Value) (w : World), (Instr.makeFunc fn first cap).run Tryz.prog w = .ok (.func fn first cap) w := fun _ _ _ _ => rfl

set_option maxHeartbeats 4000000 in
theorem receipt_any (w : World) (base : Nat) (v : Value) (bs : Bs) (r : Rcp) (hw : Wt w base v bs) (hb : base ≤ w.heap.size) (hn : bs.length ≤ 900000000) (hr : rcB r = true) (hg : r.g.length ≤ 4096) :
    Calls Tryz.prog 16 #[v, .agg (Rv r)] w fun e w' => Wrote w base (bs ++ encRcp r) e w' := by
  have k0 : (Rv r)[0]? = some (.int .i64 r.q) := rfl
  have k1 : (Rv r)[1]? = some (.string (S r.g)) := rfl
  have k2 : (Rv r)[2]? = some (.int .i64 r.s) := rfl
  have k3 : (Rv r)[3]? = some (.int .i64 r.c) := rfl
  obtain ⟨W0, hW0⟩ : ∃ W0, W0 = w.alloc (.cells (Rv r) 28) := ⟨_, rfl⟩
  have hG0 : Gr w W0 := hW0 ▸ (Gr.refl w).alloc _
  have HS0 : Hid (SR W0 base w.heap.size (Rv r) 28 W0.drew) := mkH ⟨(hW0 ▸ Bx.new w (Rv r) _).gr ((Gr.refl _).drew), (Below.refl _ _).drew, (U8.refl _).drew⟩
  have HW0 := mkH ((hw.gr hG0).gr ((Gr.refl W0).drew))
  have HB0 : Hid (base ≤ W0.heap.size) := mkH (Nat.le_trans hb hG0.below.size)
  have HG0 := mkH hG0
  generalize Rv r = C at *
  go_enter Tryz.func16, Tryz.ntmps16
  go_wp2_with fail
  rw [← hW0]
  clear hG0 hW0
  have hbb : base ≤ w.heap.size := hb
  have HBB := mkH hb
  have HBw := mkH hb
  clear hb hw hbb
  generalize hBq : w.heap.size = B at HBB HS0 ⊢
  clear hBq
  refine wp_region_held_drew (S := fun W => SR W0 base B C 28 W) (by kernel_rfl) HS0.out (fun hHeld => ?_)
  have hq : ∀ W, SR W0 base B C 28 W → ∀ k, W.cell? ⟨B, k, none⟩ = C[k]? := fun W h => h.1.cell
  refine wpAnyH_take (i := 0) (oi := { dst := some 5, op := _, type := _, pos := _, after := _, guard := _ }) (v := ?_) rfl (by kernel_rfl) (by kernel_rfl) (by kernel_rfl) (fun _ _ _ h => h) (Or.inl ⟨by rfl, ?_⟩) (by assumption) ?_
  rotate_left
  · (intro W hSw; (try dsimp only at hSw); go_simp; try (with_reducible rfl))
  try simp only [Act.put, List.setIfInBounds_toArray, List.set_cons_zero, List.set_cons_succ]
  refine wpAnyH_take (i := 1) (oi := { dst := some 6, op := _, type := _, pos := _, after := _, guard := _ }) (v := ?_) rfl (by kernel_rfl) (by kernel_rfl) (by kernel_rfl) (fun _ _ _ h => h) (Or.inl ⟨by rfl, ?_⟩) (by assumption) ?_
  rotate_left
  · (intro W hSw; (try dsimp only at hSw); go_simp; try (with_reducible rfl))
  try simp only [Act.put, List.setIfInBounds_toArray, List.set_cons_zero, List.set_cons_succ]
  refine wpAnyH_take (i := 2) (oi := { dst := some 7, op := _, type := _, pos := _, after := _, guard := _ }) (v := ?_) rfl (by kernel_rfl) (by kernel_rfl) (by kernel_rfl) (fun _ _ _ h => h) (Or.inl ⟨by rfl, ?_⟩) (by assumption) ?_
  rotate_left
  · (intro W hSw; (try dsimp only at hSw); go_simp; try (with_reducible rfl))
  try simp only [Act.put, List.setIfInBounds_toArray, List.set_cons_zero, List.set_cons_succ]
  refine wpAnyH_take (i := 5) (oi := { dst := some 10, op := _, type := _, pos := _, after := _, guard := _ }) (v := ?_) rfl (by kernel_rfl) (by kernel_rfl) (by kernel_rfl) (fun _ _ _ h => h) (Or.inl ⟨by rfl, ?_⟩) (by assumption) ?_
  rotate_left
  · (intro W hSw; (try dsimp only at hSw); go_simp; try (with_reducible rfl))
  try simp only [Act.put, List.setIfInBounds_toArray, List.set_cons_zero, List.set_cons_succ]
  refine wpAnyH_take (i := 6) (oi := { dst := some 11, op := _, type := _, pos := _, after := _, guard := _ }) (v := ?_) rfl (by kernel_rfl) (by kernel_rfl) (by kernel_rfl) (fun _ _ _ h => h) (Or.inl ⟨by rfl, ?_⟩) (by assumption) ?_
  rotate_left
  · (intro W hSw; (try dsimp only at hSw); go_simp; try (with_reducible rfl))
  try simp only [Act.put, List.setIfInBounds_toArray, List.set_cons_zero, List.set_cons_succ]
  refine wpAnyH_take (i := 9) (oi := { dst := some 14, op := _, type := _, pos := _, after := _, guard := _ }) (v := ?_) rfl (by kernel_rfl) (by kernel_rfl) (by kernel_rfl) (fun _ _ _ h => h) (Or.inl ⟨by rfl, ?_⟩) (by assumption) ?_
  rotate_left
  · (intro W hSw; (try dsimp only at hSw); go_simp; try (with_reducible rfl))
  try simp only [Act.put, List.setIfInBounds_toArray, List.set_cons_zero, List.set_cons_succ]
  refine wpAnyH_take (i := 10) (oi := { dst := some 15, op := _, type := _, pos := _, after := _, guard := _ }) (v := ?_) rfl (by kernel_rfl) (by kernel_rfl) (by kernel_rfl) (fun _ _ _ h => h) (Or.inl ⟨by rfl, ?_⟩) (by assumption) ?_
  rotate_left
  · (intro W hSw; (try dsimp only at hSw); go_simp; try (with_reducible rfl))
  try simp only [Act.put, List.setIfInBounds_toArray, List.set_cons_zero, List.set_cons_succ]
  refine wpAnyH_take (i := 11) (oi := { dst := some 16, op := _, type := _, pos := _, after := _, guard := _ }) (v := ?_) rfl (by kernel_rfl) (by kernel_rfl) (by kernel_rfl) (fun _ _ _ h => h) (Or.inl ⟨by rfl, ?_⟩) (by assumption) ?_
  rotate_left
  · (intro W hSw; (try dsimp only at hSw); go_simp; try (with_reducible rfl))
  try simp only [Act.put, List.setIfInBounds_toArray, List.set_cons_zero, List.set_cons_succ]
  refine wpAnyH_take (i := 12) (oi := { dst := some 17, op := _, type := _, pos := _, after := _, guard := _ }) (v := ?_) rfl (by kernel_rfl) (by kernel_rfl) (by kernel_rfl) (fun _ _ _ h => h) (Or.inl ⟨by rfl, ?_⟩) (by assumption) ?_
  rotate_left
  · (intro W hSw; (try dsimp only at hSw); go_simp; try (with_reducible rfl))
  try simp only [Act.put, List.setIfInBounds_toArray, List.set_cons_zero, List.set_cons_succ]
  have e1 : [r.q].flatMap encN = encN r.q := by simp
  have e2 : [r.g].flatMap encText = encText r.g := by simp
  have e3 : [r.s, r.c].flatMap encN = encN r.s ++ encN r.c := by simp
  simp only [rcB, Bool.and_eq_true] at hr
  obtain ⟨n1, n2, n3⟩ := hr
  have n1 := num_ok n1
  have n2 := num_ok n2
  have n3 := num_ok n3
  have o1 : ∀ x ∈ [r.q], 0 ≤ x ∧ x ≤ 4611686018427387904 := by intro x hx; simp at hx; subst hx; omega
  have o2 : ∀ x ∈ [r.g], x.length ≤ 4096 := by intro x hx; simp at hx; subst hx; exact hg
  have o3 : ∀ x ∈ [r.s, r.c], 0 ≤ x ∧ x ≤ 4611686018427387904 := by intro x hx; simp at hx; rcases hx with rfl | rfl <;> omega
  have l1 : (encN r.q).length ≤ 9 := enc_len9 (by omega)
  have l2 : (encText r.g).length ≤ 4105 := by unfold encText; rw [List.length_append]; have := enc_len9 (n := r.g.length) (by omega); omega
  refine wpAnyH_lin [0, 3, 4, 7, 8, 13, 14, 15] dstR consR depsR isWR [0] (FR base bs r) Gr U8 (by decide) (by kernel_rfl) ?s0 ?s1 ?step ?fin ?hpre (by decide) hHeld (by decide) rfl
  case s0 =>
    intro i hi v w w' h hg
    simp only [List.mem_cons, List.not_mem_nil, or_false] at hi
    rcases hi with rfl | rfl | rfl | rfl | rfl | rfl | rfl | rfl
    · exact Wt.gr h hg
    · exact BI.gr h hg
    · exact Wt.gr h hg
    · exact BT.gr h hg
    · exact Wt.gr h hg
    · exact BI.gr h hg
    · exact Wt.gr h hg
    · exact Wt.gr h hg
  case s1 =>
    intro i hi hw v w w' h hg
    simp only [List.mem_cons, List.not_mem_nil, or_false] at hi
    rcases hi with rfl | rfl | rfl | rfl | rfl | rfl | rfl | rfl
    · cases hw
    · exact BI.u8 h hg
    · cases hw
    · exact BT.u8 h hg
    · cases hw
    · exact BI.u8 h hg
    · cases hw
    · cases hw
  case hpre =>
    intro i hi
    obtain rfl := List.mem_singleton.1 hi
    exact HW0.out
  case step =>
    intro i hi hip x w hS hF
    simp only [List.mem_cons, List.not_mem_nil, or_false] at hi
    rcases hi with rfl | rfl | rfl | rfl | rfl | rfl | rfl | rfl
    · exact absurd (by decide) hip
    · refine op_value rfl rfl (v := .slice (some ⟨w.heap.size, 0, none⟩) 1 1) (w' := w.alloc (.cells #[.int .i64 r.q] 3)) ?_ ⟨_, rfl, hS.gr HB0.out ((Gr.refl w).alloc _), ⟨_, rfl, Bx.new w #[.int .i64 r.q] 3⟩, (Gr.refl w).alloc _⟩
      simp only [puts, dstR, Act.put, List.setIfInBounds_toArray, List.set_cons_zero, List.set_cons_succ]
      go_simp
    · obtain ⟨b, hx, hbx⟩ : BI [r.q] (x 3) w := hF 3 (by decide)
      have hw1 : Wt w base (x 0) (bs) := hF 0 (by decide)
      refine op_call rfl rfl (f := 14) (args := #[x 0, x 3]) ?_ ?_
      · simp only [puts, dstR, Act.put, List.setIfInBounds_toArray, List.set_cons_zero, List.set_cons_succ]
        go_simp
      · rw [hx]
        refine (nums_any w base (x 0) (bs) hw1 (Nat.le_trans HB0.out hS.2.1.size) (by omega) b _ [r.q] hbx (by simp) (o1)).mono ?_
        rintro e w' ⟨v', rfl, hw', hb', hu'⟩
        rw [e1] at hw'
        exact ⟨v', rfl, _, rfl, hS.wrote (by decide) hb' hu', hw', hu'⟩
    · refine op_value rfl rfl (v := .slice (some ⟨w.heap.size, 0, none⟩) 1 1) (w' := w.alloc (.cells #[.string (S r.g)] 9)) ?_ ⟨_, rfl, hS.gr HB0.out ((Gr.refl w).alloc _), ⟨_, rfl, Bx.new w #[.string (S r.g)] 9⟩, (Gr.refl w).alloc _⟩
      simp only [puts, dstR, Act.put, List.setIfInBounds_toArray, List.set_cons_zero, List.set_cons_succ]
      go_simp
    · obtain ⟨b, hx, hbx⟩ : BT [r.g] (x 7) w := hF 7 (by decide)
      have hw1 : Wt w base (x 4) (bs ++ encN r.q) := hF 4 (by decide)
      refine op_call rfl rfl (f := 15) (args := #[x 4, x 7]) ?_ ?_
      · simp only [puts, dstR, Act.put, List.setIfInBounds_toArray, List.set_cons_zero, List.set_cons_succ]
        go_simp
      · rw [hx]
        refine (texts_any w base (x 4) (bs ++ encN r.q) hw1 (Nat.le_trans HB0.out hS.2.1.size) (by simp only [List.length_append]; omega) b _ [r.g] hbx (by simp) (o2)).mono ?_
        rintro e w' ⟨v', rfl, hw', hb', hu'⟩
        rw [e2] at hw'
        exact ⟨v', rfl, _, rfl, hS.wrote (by decide) hb' hu', hw', hu'⟩
    · refine op_value rfl rfl (v := .slice (some ⟨w.heap.size, 0, none⟩) 2 2) (w' := w.alloc (.cells #[.int .i64 r.s, .int .i64 r.c] 3)) ?_ ⟨_, rfl, hS.gr HB0.out ((Gr.refl w).alloc _), ⟨_, rfl, Bx.new w #[.int .i64 r.s, .int .i64 r.c] 3⟩, (Gr.refl w).alloc _⟩
      simp only [puts, dstR, Act.put, List.setIfInBounds_toArray, List.set_cons_zero, List.set_cons_succ]
      go_simp
    · obtain ⟨b, hx, hbx⟩ : BI [r.s, r.c] (x 13) w := hF 13 (by decide)
      have hw1 : Wt w base (x 8) (bs ++ encN r.q ++ encText r.g) := hF 8 (by decide)
      refine op_call rfl rfl (f := 14) (args := #[x 8, x 13]) ?_ ?_
      · simp only [puts, dstR, Act.put, List.setIfInBounds_toArray, List.set_cons_zero, List.set_cons_succ]
        go_simp
      · rw [hx]
        refine (nums_any w base (x 8) (bs ++ encN r.q ++ encText r.g) hw1 (Nat.le_trans HB0.out hS.2.1.size) (by simp only [List.length_append]; omega) b _ [r.s, r.c] hbx (by simp) (o3)).mono ?_
        rintro e w' ⟨v', rfl, hw', hb', hu'⟩
        rw [e3] at hw'
        exact ⟨v', rfl, _, rfl, hS.wrote (by decide) hb' hu', hw', hu'⟩
    · have hw1 : Wt w base (x 14) (bs ++ encN r.q ++ encText r.g ++ (encN r.s ++ encN r.c)) := hF 14 (by decide)
      refine op_value rfl rfl (v := x 14) (w' := w) ?_ ⟨_, rfl, hS, hw1, U8.refl w⟩
      simp only [puts, dstR, Act.put, List.setIfInBounds_toArray, List.set_cons_zero, List.set_cons_succ]
      go_simp
  case fin =>
    intro x w hS hF
    have hw1 : Wt w base (x 15) (bs ++ encN r.q ++ encText r.g ++ (encN r.s ++ encN r.c)) := hF 15 (by decide) (by decide)
    have HW1 := mkH hw1
    have HS1 := mkH hS
    clear hw1 hF hS hq hHeld HS0
    simp only [puts, dstR, Act.put, List.setIfInBounds_toArray, List.set_cons_zero, List.set_cons_succ]
    go_wp2
    go_ret
    refine ⟨_, rfl, ?_, (below_down HG0.out.below HBw.out).trans HS1.out.2.1, (U8.ofGr HG0.out).trans HS1.out.2.2⟩
    have := HW1.out
    rw [List.append_assoc, List.append_assoc] at this
    exact this
end Go.Proofs.YtcpmcfagibmboabGreat.Wv

namespace Go.Proofs.YtcpmcfagibmboabGreat.Wc
open Go.RowKit Kt Pl Wi Wk
open At (RowT)
set_option linter.unusedVariables false
set_option maxRecDepth 20000

theorem judge_any (w : World) (a b : Bool) : Calls Tryz.prog 34 #[.bool a, .bool b] w fun e w' => e = .returned (.int .i64 (judge a b : Int)) ∧ w' = w := by
  have hnot : ∀ (x : Bool) (w : World), (Op.unary .not (.bool x)).run Tryz.prog w = .ok (.bool (!x)) w := fun _ _ => rfl
  cases a <;> cases b
  all_goals
    go_enter Tryz.func34, Tryz.ntmps34
    go_wp2
    go_ret
    exact ⟨rfl, rfl⟩

set_option maxHeartbeats 400000 in
theorem upTo1_any (w : World) (n lim : Int) (p : Addr) (hc : w.cell? p = some (.int .i64 lim)) :
    Calls Tryz.prog 83 #[.int .i64 n, .pointer (some p)] w fun e w' => e = .returned (.bool (upToB lim n)) ∧ w' = w := by
  by_cases h0 : 0 ≤ n
  · have HE : Hid (upToB lim n = decide (n ≤ lim)) := mkH (by simp [upToB, h0])
    go_enter Tryz.func83, Tryz.ntmps83
    go_wp2
    go_ret
    exact ⟨ret_bool HE.out.symm, rfl⟩
  · have HE : Hid (upToB lim n = false) := mkH (by simp [upToB, h0])
    go_enter Tryz.func83, Tryz.ntmps83
    go_wp2
    go_ret
    exact ⟨ret_bool HE.out.symm, rfl⟩

set_option maxHeartbeats 1000000 in
theorem eachI_any (w : World) (ao : Option Addr) (cap : Nat) (l : List Int) (hr : RowI w ao l) (hlen : l.length ≤ 1000000) (p : Addr) (lim : Int) (hc : w.cell? p = some (.int .i64 lim)) :
    Calls Tryz.prog 82 #[.slice ao l.length cap, .func (Fn.func 83) #[] #[.pointer (some p)]] w fun e w' => e = .returned (.bool (l.all (upToB lim))) ∧ w' = w := by
  have HC := mkH hc
  clear hc
  go_enter Tryz.func82, Tryz.ntmps82
  go_wp2
  go_loop [6, 9] (fun _ i => ∃ k : Nat, k ≤ l.length ∧ i = .int .i64 k ∧ Hid ((l.take k).all (upToB lim) = true)) (fun _ i => l.length - (intOf i).toNat)
  case atStart => exact ⟨0, Nat.zero_le _, rfl, mkH (by simp)⟩
  case round =>
    obtain ⟨k, hk, rfl, HA⟩ := hrel
    by_cases hlt : k < l.length
    · obtain ⟨b, off, hao, hcl⟩ := hr (by omega)
      obtain ⟨x, hx⟩ : ∃ x, l[k]? = some x := ⟨_, List.getElem?_eq_getElem hlt⟩
      have hck : w.cell? ⟨b, off + k, none⟩ = some (.int .i64 x) := by rw [hcl k hlt, getD_of hx]
      subst hao
      have HX := mkH hx
      clear hcl hx hr
      have H := upTo1_any w x lim p HC.out
      cases hb : upToB lim x
      · rw [hb] at H
        have HE : Hid (l.all (upToB lim) = false) := mkH (all_false HX.out hb)
        clear hb HX
        go_wp2_with fail
        refine H.mono ?_
        rintro e w1 ⟨rfl, rfl⟩
        clear H
        go_wp2
        go_ret
        exact ⟨ret_bool HE.out.symm, rfl⟩
      · rw [hb] at H
        have HN : Hid ((l.take (k + 1)).all (upToB lim) = true) := mkH (by rw [all_take _ _ _ _ HX.out, HA.out, hb]; rfl)
        clear hb HX HA
        go_wp2_with fail
        refine H.mono ?_
        rintro e w1 ⟨rfl, rfl⟩
        clear H
        go_wp2
        go_round
        case rel => exact ⟨k + 1, by omega, by go_num, HN⟩
        case measure => simp [intOf]; omega
    · have HE : Hid (l.all (upToB lim) = true) := mkH (by have := HA.out; rwa [List.take_of_length_le (by omega)] at this)
      clear HA
      go_wp2
      go_ret
      exact ⟨ret_bool HE.out.symm, rfl⟩
end Go.Proofs.YtcpmcfagibmboabGreat.Wc

namespace Go.Proofs.YtcpmcfagibmboabGreat.Wd
open Go.RowKit Kt Pl Wi Wk Wc
open At (RowT)
set_option linter.unusedVariables false
set_option maxRecDepth 20000

theorem hmf : ∀ (fn : Fn) (first cap : Array Value) (w : World), (Instr.makeFunc fn first cap).run Tryz.prog w = .ok (.func fn first cap) w := fun _ _ _ _ => rfl

set_option maxHeartbeats 400000 in
theorem upTo_any (w : World) (ao : Option Addr) (cap : Nat) (l : List Int) (hr : RowI w ao l) (hlen : l.length ≤ 1000000) (lim : Int) :
    Calls Tryz.prog 57 #[.int .i64 lim, .slice ao l.length cap] w fun e w' => e = .returned (.bool (l.all (upToB lim))) ∧ w' = w.alloc (.cells #[.int .i64 lim] 3) := by
  have hmf := hmf
  have H := eachI_any (w.alloc (.cells #[.int .i64 lim] 3)) ao cap l (hr.gr ((Gr.refl w).alloc _)) hlen ⟨w.heap.size, 0, none⟩ lim (by rw [cell_new]; rfl)
  clear hr
  go_enter Tryz.func57, Tryz.ntmps57
  go_wp2_with fail
  refine H.mono ?_
  rintro e w1 ⟨rfl, rfl⟩
  clear H
  go_wp2
  go_ret
  exact ⟨rfl, rfl⟩

theorem upTo_at (w : World) (ao : Option Addr) (cap n : Nat) (l : List Int) (hn : l.length = n) (hr : RowI w ao l) (hlen : n ≤ 1000000) (lim : Int) :
    Calls Tryz.prog 57 #[.int .i64 lim, .slice ao n cap] w fun e w' => e = .returned (.bool (l.all (upToB lim))) ∧ w' = w.alloc (.cells #[.int .i64 lim] 3) := hn ▸ upTo_any w ao cap l hr (hn ▸ hlen) lim

set_option maxHeartbeats 400000 in
theorem fit1_any (w : World) (s : Bs) (lim : Nat) (p : Addr) (hc : w.cell? p = some (.int .i64 lim)) :
    Calls Tryz.prog 85 #[.string (S s), .pointer (some p)] w fun e w' => e = .returned (.bool (fitB lim s)) ∧ w' = w := by
  have HE : Hid (fitB lim s = decide ((S s).size ≤ lim)) := mkH rfl
  go_enter Tryz.func85, Tryz.ntmps85
  go_wp2
  go_ret
  exact ⟨ret_bool HE.out.symm, rfl⟩

set_option maxHeartbeats 1000000 in
theorem eachT_any (w : World) (ao : Option Addr) (cap : Nat) (l : List Bs) (hr : RowT w ao l) (hlen : l.length ≤ 1000000) (p : Addr) (lim : Nat) (hc : w.cell? p = some (.int .i64 lim)) :
    Calls Tryz.prog 84 #[.slice ao l.length cap, .func (Fn.func 85) #[] #[.pointer (some p)]] w fun e w' => e = .returned (.bool (l.all (fitB lim))) ∧ w' = w := by
  have HC := mkH hc
  clear hc
  go_enter Tryz.func84, Tryz.ntmps84
  go_wp2
  go_loop [6, 9] (fun _ i => ∃ k : Nat, k ≤ l.length ∧ i = .int .i64 k ∧ Hid ((l.take k).all (fitB lim) = true)) (fun _ i => l.length - (intOf i).toNat)
  case atStart => exact ⟨0, Nat.zero_le _, rfl, mkH (by simp)⟩
  case round =>
    obtain ⟨k, hk, rfl, HA⟩ := hrel
    by_cases hlt : k < l.length
    · obtain ⟨b, off, hao, hcl⟩ := hr (by omega)
      obtain ⟨x, hx⟩ : ∃ x, l[k]? = some x := ⟨_, List.getElem?_eq_getElem hlt⟩
      have hck : w.cell? ⟨b, off + k, none⟩ = some (.string (S x)) := by rw [hcl k hlt, getD_of hx]
      subst hao
      have HX := mkH hx
      clear hcl hx hr
      have H := fit1_any w x lim p HC.out
      cases hb : fitB lim x
      · rw [hb] at H
        have HE : Hid (l.all (fitB lim) = false) := mkH (all_false HX.out hb)
        clear hb HX
        go_wp2_with fail
        refine H.mono ?_
        rintro e w1 ⟨rfl, rfl⟩
        clear H
        go_wp2
        go_ret
        exact ⟨ret_bool HE.out.symm, rfl⟩
      · rw [hb] at H
        have HN : Hid ((l.take (k + 1)).all (fitB lim) = true) := mkH (by rw [all_take _ _ _ _ HX.out, HA.out, hb]; rfl)
        clear hb HX HA
        go_wp2_with fail
        refine H.mono ?_
        rintro e w1 ⟨rfl, rfl⟩
        clear H
        go_wp2
        go_round
        case rel => exact ⟨k + 1, by omega, by go_num, HN⟩
        case measure => simp [intOf]; omega
    · have HE : Hid (l.all (fitB lim) = true) := mkH (by have := HA.out; rwa [List.take_of_length_le (by omega)] at this)
      clear HA
      go_wp2
      go_ret
      exact ⟨ret_bool HE.out.symm, rfl⟩

set_option maxHeartbeats 400000 in
theorem fit_any (w : World) (ao : Option Addr) (cap : Nat) (l : List Bs) (hr : RowT w ao l) (hlen : l.length ≤ 1000000) (lim : Nat) :
    Calls Tryz.prog 59 #[.int .i64 lim, .slice ao l.length cap] w fun e w' => e = .returned (.bool (l.all (fitB lim))) ∧ w' = w.alloc (.cells #[.int .i64 lim] 3) := by
  have hmf := hmf
  have H := eachT_any (w.alloc (.cells #[.int .i64 lim] 3)) ao cap l (RowT.gr hr ((Gr.refl w).alloc _)) hlen ⟨w.heap.size, 0, none⟩ lim (by rw [cell_new]; rfl)
  clear hr
  go_enter Tryz.func59, Tryz.ntmps59
  go_wp2_with fail
  refine H.mono ?_
  rintro e w1 ⟨rfl, rfl⟩
  clear H
  go_wp2
  go_ret
  exact ⟨rfl, rfl⟩

theorem fit_at (w : World) (ao : Option Addr) (cap n : Nat) (l : List Bs) (hn : l.length = n) (hr : RowT w ao l) (hlen : n ≤ 1000000) (lim : Nat) (L : Int) (hL : L = (lim : Int)) :
    Calls Tryz.prog 59 #[.int .i64 L, .slice ao n cap] w fun e w' => e = .returned (.bool (l.all (fitB lim))) ∧ w' = w.alloc (.cells #[.int .i64 L] 3) := by subst hL; exact hn ▸ fit_any w ao cap l hr (hn ▸ hlen) lim

set_option maxHeartbeats 400000 in
theorem shortData_any (w : World) (ao : Option Addr) (cap : Nat) (l : List Bs) (hr : RowT w ao l) (hlen : l.length ≤ 1000000) :
    Calls Tryz.prog 60 #[.slice ao l.length cap] w fun e w' => e = .returned (.bool (dataB l)) ∧ Gr w w' := by
  by_cases h : l.length ≤ 1024
  · have HE : Hid (dataB l = l.all (fitB 4096)) := mkH (by simp [dataB, h])
    have H := fit_any w ao cap l hr hlen 4096
    have c1 : (l.length : Int) ≤ 1024 := by omega
    clear hr
    go_enter Tryz.func60, Tryz.ntmps60
    go_wp2_with fail
    refine H.mono ?_
    rintro e w1 ⟨rfl, rfl⟩
    clear H
    go_wp2
    go_ret
    exact ⟨ret_bool HE.out.symm, (Gr.refl w).alloc _⟩
  · have HE : Hid (dataB l = false) := mkH (by simp [dataB, h])
    have c1 : ¬ (l.length : Int) ≤ 1024 := by omega
    clear hr
    go_enter Tryz.func60, Tryz.ntmps60
    go_wp2
    go_ret
    exact ⟨ret_bool HE.out.symm, Gr.refl w⟩

theorem rcB_all (r : Rcp) : rcB r = [r.q, r.s, r.c].all (upToB 1099511627776) := by simp [rcB, numB]

set_option maxHeartbeats 400000 in
theorem rightReceipt_any (w : World) (r : Rcp) :
    Calls Tryz.prog 58 #[.agg #[.int .i64 r.q, .string (S r.g), .int .i64 r.s, .int .i64 r.c]] w fun e w' => e = .returned (.bool (rcB r)) ∧ Gr w w' := by

  go_enter Tryz.func58, Tryz.ntmps58
  go_wp2_with fail
  refine (upTo_at _ _ 3 3 [r.q, r.s, r.c] rfl ?hr (by omega) 1099511627776).mono ?_
  case hr => exact RowI.at _ [r.q, r.s, r.c] 3 _ (by simp)
  rintro e w1 ⟨rfl, rfl⟩
  go_wp2
  go_ret
  exact ⟨ret_bool rfl, (((Gr.refl w).alloc _).alloc _).alloc _⟩

theorem mayB_cases (lo hi : Int) : (¬ 0 ≤ lo ∧ mayB lo hi = false) ∨ (0 ≤ lo ∧ ¬ lo < hi ∧ mayB lo hi = false) ∨ (0 ≤ lo ∧ lo < hi ∧ ¬ hi ≤ 65536 ∧ mayB lo hi = false) ∨ (0 ≤ lo ∧ lo < hi ∧ hi ≤ 65536 ∧ mayB lo hi = true) := by
  unfold mayB
  by_cases h1 : 0 ≤ lo <;> by_cases h2 : lo < hi <;> by_cases h3 : hi ≤ 65536 <;> simp [h1, h2, h3]

theorem may_any (w : World) (lo hi : Int) :
    Calls Tryz.prog 47 #[.agg #[.int .i64 lo, .int .i64 hi]] w fun e w' => e = .returned (.bool (mayB lo hi)) ∧ Gr w w' := by
  rcases mayB_cases lo hi with ⟨h1, he⟩ | ⟨h1, h2, he⟩ | ⟨h1, h2, h3, he⟩ | ⟨h1, h2, h3, he⟩
  all_goals
    have HE := mkH he
    clear he
    go_enter Tryz.func47, Tryz.ntmps47
    go_wp2
    go_ret
    exact ⟨ret_bool HE.out.symm, (Gr.refl w).alloc _⟩
end Go.Proofs.YtcpmcfagibmboabGreat.Wd

namespace Go.Proofs.YtcpmcfagibmboabGreat.We
open Go.RowKit Kt Pl Wi Wk Wc Wd
open At (RowT)
set_option linter.unusedVariables false
set_option maxRecDepth 20000

theorem eqlR (a b c d : Int) (w : World) : Sem.run Tryz.prog (binOp .eql 30 (.agg #[.int .i64 a, .int .i64 b]) (.agg #[.int .i64 c, .int .i64 d])) w = .ok (.bool (decide (a = c ∧ b = d))) w := by
  have u3 := Tryz.underlying3
  have a3 := Tryz.isAgg3
  have z3 := Tryz.sizeOf3
  have hS : Tryz.prog.underlying 30 = some (.struct (Tryz.prog.fieldsOf 30)) := by kernel_rfl
  have hp : Tryz.prog.stoodInHeld 30 = false := by kernel_rfl
  rw [run_eql_struct, show (10000 : Nat) = 9999 + 1 from rfl, run_equalIn_agg w 9999 30 _ _ hS hp]
  simp only [Program.fieldsOf, Tryz.underlying30]
  go_simp
  by_cases h1 : a = c <;> by_cases h2 : b = d <;> simp [h1, h2]
theorem guardR (op : BinOp) (x y : Operand) (a b c d : Int) (w : World) : Sem.run Tryz.prog (eqGuard op 30 x y (.agg #[.int .i64 a, .int .i64 b]) (.agg #[.int .i64 c, .int .i64 d])) w = .ok () w :=
  run_eqGuard_agg w op 30 x y _ _ (by kernel_rfl)
theorem neqR (a b c d : Int) (w : World) : Sem.run Tryz.prog (binOp .neq 30 (.agg #[.int .i64 a, .int .i64 b]) (.agg #[.int .i64 c, .int .i64 d])) w = .ok (.bool (!decide (a = c ∧ b = d))) w := by
  have h := eqlR a b c d w
  rw [run_eql_struct] at h
  rw [run_neq_struct]
  revert h
  generalize (Op.equalIn 10000 30 (.agg #[.int .i64 a, .int .i64 b]) (.agg #[.int .i64 c, .int .i64 d])).run Tryz.prog w = r
  intro h
  cases r with
  | ok b w' => simp only [Result.andThen_ok] at h ⊢; injection h with h1 h2; injection h1 with h1; rw [h1, h2]
  | halt x w' => simp [Result.andThen] at h

theorem Cv_size (c : Cm) (d : Value) : (Cv c d).size = 19 := rfl
theorem Cv_at (c : Cm) (d : Value) : (Cv c d)[0]? = some (.int .i64 c.kind) ∧ (Cv c d)[1]? = some (.int .i64 c.client) ∧ (Cv c d)[2]? = some (.int .i64 c.num) ∧ (Cv c d)[3]? = some (.int .i64 c.time) ∧ (Cv c d)[4]? = some (.int .i64 c.queue) ∧
    (Cv c d)[5]? = some (.string (S c.group)) ∧ (Cv c d)[6]? = some (.string (S c.body)) ∧ (Cv c d)[7]? = some (.string (S c.token)) ∧ (Cv c d)[8]? = some (.string (S c.attempt)) ∧ (Cv c d)[9]? = some (.int .i64 c.max) ∧ (Cv c d)[10]? = some (.int .i64 c.secs) ∧
    (Cv c d)[11]? = some (.int .i64 c.rc.q) ∧ (Cv c d)[12]? = some (.string (S c.rc.g)) ∧ (Cv c d)[13]? = some (.int .i64 c.rc.s) ∧ (Cv c d)[14]? = some (.int .i64 c.rc.c) ∧ (Cv c d)[15]? = some (.int .i64 c.lo) ∧ (Cv c d)[16]? = some (.int .i64 c.hi) ∧ (Cv c d)[17]? = some (.int .i64 c.to) ∧ (Cv c d)[18]? = some d :=
  ⟨rfl, rfl, rfl, rfl, rfl, rfl, rfl, rfl, rfl, rfl, rfl, rfl, rfl, rfl, rfl, rfl, rfl, rfl, rfl⟩

theorem right_cases (c : Cm) : rightC c = ([c.kind].all (upToB 10) && ([c.client, c.num, c.time, c.queue, c.max, c.secs, c.to].all (upToB 1099511627776) && (rcB c.rc && (decide (c.lo = 0 ∧ c.hi = 0) || mayB c.lo c.hi)))) := by
  simp [rightC, numB, Bool.decide_and]

set_option maxHeartbeats 2000000 in
theorem rightCmd_any (w : World) (c : Cm) (d : Value) :
    Calls Tryz.prog 35 #[.agg (Cv c d)] w fun e w' => e = .returned (.bool (rightC c)) ∧ Gr w w' := by
  obtain ⟨k0, k1, k2, k3, k4, k5, k6, k7, k8, k9, k10, k11, k12, k13, k14, k15, k16, k17, k18⟩ := Cv_at c d
  clear k5 k6 k7 k8 k18
  generalize Cv c d = C at *
  have H1 := fun W ao cap n hn hr hl => upTo_at W ao cap n [c.kind] hn hr hl 10
  have H2 := fun W ao cap n hn hr hl => upTo_at W ao cap n [c.client, c.num, c.time, c.queue, c.max, c.secs, c.to] hn hr hl 1099511627776
  have H3 := fun W => rightReceipt_any W c.rc
  have H4 := fun W => may_any W c.lo c.hi
  have HE := mkH (right_cases c)
  have e1 := eqlR c.lo c.hi 0 0
  have g1 := guardR
  generalize [c.kind].all (upToB 10) = b1 at H1 HE
  generalize [c.client, c.num, c.time, c.queue, c.max, c.secs, c.to].all (upToB 1099511627776) = b2 at H2 HE
  generalize rcB c.rc = b3 at H3 HE
  generalize mayB c.lo c.hi = b4 at H4 HE
  have E1 : [c.kind].length = 1 := rfl
  have E2 : [c.client, c.num, c.time, c.queue, c.max, c.secs, c.to].length = 7 := rfl
  cases b1
  · go_enter Tryz.func35, Tryz.ntmps35
    go_wp2_with fail
    refine (H1 _ _ 1 1 rfl ?hr (by omega)).mono ?_
    case hr => exact RowI.at _ [c.kind] 3 _ (by simp)
    rintro e w1 ⟨rfl, rfl⟩
    go_wp2
    go_ret
    exact ⟨ret_bool HE.out.symm, (((Gr.refl w).alloc _).alloc _).alloc _⟩
  cases b2
  · go_enter Tryz.func35, Tryz.ntmps35
    go_wp2_with fail
    refine (H1 _ _ 1 1 rfl ?hr (by omega)).mono ?_
    case hr => exact RowI.at _ [c.kind] 3 _ (by simp)
    rintro e w1 ⟨rfl, rfl⟩
    go_wp2_with fail
    refine (H2 _ _ 7 7 rfl ?hr2 (by omega)).mono ?_
    case hr2 => exact RowI.at _ [c.client, c.num, c.time, c.queue, c.max, c.secs, c.to] 3 _ (by simp)
    rintro e w1 ⟨rfl, rfl⟩
    go_wp2
    go_ret
    exact ⟨ret_bool HE.out.symm, (((((Gr.refl w).alloc _).alloc _).alloc _).alloc _).alloc _⟩
  cases b3
  · go_enter Tryz.func35, Tryz.ntmps35
    go_wp2_with fail
    refine (H1 _ _ 1 1 rfl ?hr (by omega)).mono ?_
    case hr => exact RowI.at _ [c.kind] 3 _ (by simp)
    rintro e w1 ⟨rfl, rfl⟩
    go_wp2_with fail
    refine (H2 _ _ 7 7 rfl ?hr2 (by omega)).mono ?_
    case hr2 => exact RowI.at _ [c.client, c.num, c.time, c.queue, c.max, c.secs, c.to] 3 _ (by simp)
    rintro e w1 ⟨rfl, rfl⟩
    go_wp2_with fail
    refine (H3 _).mono ?_
    rintro e w1 ⟨rfl, hg⟩
    have hg := mkH ((((((Gr.refl w).alloc _).alloc _).alloc _).alloc _).alloc _ |>.trans hg)
    go_wp2
    go_ret
    exact ⟨ret_bool HE.out.symm, hg.out⟩
  have hz : decide (c.lo = 0 ∧ c.hi = 0) = true ∨ decide (c.lo = 0 ∧ c.hi = 0) = false := by cases decide (c.lo = 0 ∧ c.hi = 0) <;> simp
  rcases hz with hz | hz
  all_goals
    rw [hz] at e1 HE
    clear hz
    obtain ⟨W0, hW0⟩ : ∃ W0, W0 = w.alloc (.cells C 33) := ⟨_, rfl⟩
    have hB0 : Bx W0 w.heap.size C 33 := hW0 ▸ Bx.new w C _
    have hG0 : Gr w W0 := hW0 ▸ (Gr.refl w).alloc _
    have HB := mkH hB0
    have HG := mkH hG0
    clear hB0 hG0
    go_enter Tryz.func35, Tryz.ntmps35
    go_wp2_with fail
    refine (H1 _ _ 1 1 rfl ?hr (by omega)).mono ?_
    case hr => exact RowI.at _ [c.kind] 3 _ (by simp)
    rintro e w1 ⟨rfl, rfl⟩
    go_wp2_with fail
    refine (H2 _ _ 7 7 rfl ?hr2 (by omega)).mono ?_
    case hr2 => exact RowI.at _ [c.client, c.num, c.time, c.queue, c.max, c.secs, c.to] 3 _ (by simp)
    rintro e w1 ⟨rfl, rfl⟩
    go_wp2_with fail
    refine (H3 _).mono ?_
    rintro e w1 ⟨rfl, hg⟩
    rw [← hW0] at hg
    have hg1 := (((((Gr.refl W0).alloc _).alloc _).alloc _).alloc _).trans hg
    have hq := (HB.out.gr hg1).cell
    have hlt := (HB.out.gr hg1).lt
    have HGG := mkH (HG.out.trans hg1)
    clear hg hg1 HB HG hW0
    generalize w.heap.size = B at *
    first
    | (go_wp2_with fail
       refine (H4 _).mono ?_
       rintro e w2 ⟨rfl, hg2⟩
       have HG3 := mkH (HGG.out.trans hg2)
       clear hg2
       go_wp2
       go_ret
       exact ⟨ret_bool (by rw [HE.out]; simp), HG3.out⟩)
    | (go_wp2
       go_ret
       exact ⟨ret_bool (by rw [HE.out]; simp), HGG.out⟩)

theorem short_cases (c : Cm) : shortC c = ([c.group, c.token, c.attempt, c.rc.g].all (fitB 32) && ([c.body].all (fitB 128) && dataB c.data)) := by
  simp [shortC]

set_option maxHeartbeats 2000000 in
theorem shortCmd_any (w : World) (c : Cm) (ao : Option Addr) (cap : Nat) (hr : RowT w ao c.data) (hlen : c.data.length ≤ 1000000) :
    Calls Tryz.prog 36 #[.agg (Cv c (.slice ao c.data.length cap))] w fun e w' => e = .returned (.bool (shortC c)) ∧ Gr w w' := by
  obtain ⟨k0, k1, k2, k3, k4, k5, k6, k7, k8, k9, k10, k11, k12, k13, k14, k15, k16, k17, k18⟩ := Cv_at c (.slice ao c.data.length cap)
  clear k0 k1 k2 k3 k4 k9 k10 k11 k13 k14 k15 k16 k17
  generalize Cv c (.slice ao c.data.length cap) = C at *
  have H1 := fun W ao cap n hn hr hl => fit_at W ao cap n [c.group, c.token, c.attempt, c.rc.g] hn hr hl 32 32 rfl
  have H2 := fun W ao cap n hn hr hl => fit_at W ao cap n [c.body] hn hr hl 128 128 rfl
  have H3 := fun W hr => shortData_any W ao cap c.data hr hlen
  have HE := mkH (short_cases c)
  have HR := mkH hr
  clear hr
  generalize [c.group, c.token, c.attempt, c.rc.g].all (fitB 32) = b1 at H1 HE
  generalize [c.body].all (fitB 128) = b2 at H2 HE
  generalize dataB c.data = b3 at H3 HE
  cases b1
  · go_enter Tryz.func36, Tryz.ntmps36
    go_wp2_with fail
    refine (H1 _ _ 4 4 rfl ?hr (by omega)).mono ?_
    case hr => exact RowT.at _ [c.group, c.token, c.attempt, c.rc.g] 9 _ (by simp)
    rintro e w1 ⟨rfl, rfl⟩
    go_wp2
    go_ret
    exact ⟨ret_bool HE.out.symm, (((Gr.refl w).alloc _).alloc _).alloc _⟩
  cases b2
  · go_enter Tryz.func36, Tryz.ntmps36
    go_wp2_with fail
    refine (H1 _ _ 4 4 rfl ?hr (by omega)).mono ?_
    case hr => exact RowT.at _ [c.group, c.token, c.attempt, c.rc.g] 9 _ (by simp)
    rintro e w1 ⟨rfl, rfl⟩
    go_wp2_with fail
    refine (H2 _ _ 1 1 rfl ?hr2 (by omega)).mono ?_
    case hr2 => exact RowT.at _ [c.body] 9 _ (by simp)
    rintro e w1 ⟨rfl, rfl⟩
    go_wp2
    go_ret
    exact ⟨ret_bool HE.out.symm, (((((Gr.refl w).alloc _).alloc _).alloc _).alloc _).alloc _⟩
  go_enter Tryz.func36, Tryz.ntmps36
  go_wp2_with fail
  refine (H1 _ _ 4 4 rfl ?hr (by omega)).mono ?_
  case hr => exact RowT.at _ [c.group, c.token, c.attempt, c.rc.g] 9 _ (by simp)
  rintro e w1 ⟨rfl, rfl⟩
  go_wp2_with fail
  refine (H2 _ _ 1 1 rfl ?hr2 (by omega)).mono ?_
  case hr2 => exact RowT.at _ [c.body] 9 _ (by simp)
  rintro e w1 ⟨rfl, rfl⟩
  go_wp2_with fail
  refine (H3 _ ?hr3).mono ?_
  case hr3 => exact RowT.gr HR.out ((((((Gr.refl w).alloc _).alloc _).alloc _).alloc _).alloc _)
  rintro e w1 ⟨rfl, hg⟩
  have HG := mkH ((((((Gr.refl w).alloc _).alloc _).alloc _).alloc _).alloc _ |>.trans hg)
  clear hg
  go_wp2
  go_ret
  exact ⟨ret_bool (by rw [HE.out]; simp), HG.out⟩
end Go.Proofs.YtcpmcfagibmboabGreat.We

namespace Go.Proofs.YtcpmcfagibmboabGreat.Wf
open Go.RowKit Kt Pl Wi Wk Wc Wd We Wx
open At (RowT)
set_option linter.unusedVariables false
set_option maxRecDepth 20000

theorem infoC : (Tryz.prog.info? 33).map (·.size) = some 19 := by kernel_rfl
theorem load_cm {w : World} {b : Nat} {c : Cm} {d : Value} (h : Bx w b (Cv c d) 33) : (loadVar 33 ⟨b, 0, none⟩).run Tryz.prog w = .ok (.agg (Cv c d)) w :=
  load_bx h Tryz.underlying33 rfl infoC

set_option maxHeartbeats 4000000 in
theorem check_any (w : World) (c : Cm) (ao : Option Addr) (cap : Nat) (hr : RowT w ao c.data) (hlen : c.data.length ≤ 1000000) :
    Calls Tryz.prog 13 #[.agg (Cv c (.slice ao c.data.length cap))] w fun e w' => e = .returned (.int .i64 (checkC c : Int)) ∧ Gr w w' := by
  have HG0 := mkH ((Gr.refl w).alloc (.cells (Cv c (.slice ao c.data.length cap)) 33))
  have HR := mkH (RowT.gr hr HG0.out)
  have HB := mkH (Bx.new w (Cv c (.slice ao c.data.length cap)) 33)
  clear hr
  have H1 := fun W => rightCmd_any W c (.slice ao c.data.length cap)
  have H2 := fun W hr => shortCmd_any W c ao cap hr hlen
  have H3 := fun W => judge_any W (rightC c) (shortC c)
  have HE : Hid (checkC c = judge (rightC c) (shortC c)) := mkH rfl
  have hld : ∀ W b, Bx W b (Cv c (.slice ao c.data.length cap)) 33 → _ := fun W b h => load_cm h
  have HL := mkH hld
  clear hld
  generalize rightC c = b1 at H1 H3 HE
  generalize shortC c = b2 at H2 H3 HE
  generalize judge b1 b2 = j at H3 HE
  generalize Cv c (.slice ao c.data.length cap) = C at *
  go_enter Tryz.func13, Tryz.ntmps13
  go_wp2_with fail
  generalize w.alloc (.cells C 33) = W0 at *
  generalize w.heap.size = B at *
  refine wp_region_quiet (C := fun w' => Gr W0 w') (by kernel_rfl) (by kernel_rfl) ((Gr.refl W0).drew) ?_
  refine q_yield (v := .agg C) rfl (fun w hC => run_ld rfl rfl (HL.out _ _ (HB.out.gr hC))) ?_
  refine wpQuiet_step (fun K hK => ?_)
  go_simp
  refine ⟨_, fun w hw => ((H1 w).mono fun _ _ ⟨he, hg⟩ => ⟨he, hw.trans hg⟩), hK _ ?_⟩
  clear hK K
  refine q_yield (v := .agg C) rfl (fun w hC => run_ld rfl rfl (HL.out _ _ (HB.out.gr hC))) ?_
  refine wpQuiet_step (fun K hK => ?_)
  go_simp
  refine ⟨_, fun w hw => ((H2 w (RowT.gr HR.out hw)).mono fun _ _ ⟨he, hg⟩ => ⟨he, hw.trans hg⟩), hK _ ?_⟩
  clear hK K
  refine wpQuiet_step (fun K hK => ?_)
  go_simp
  refine ⟨_, fun w hw => ((H3 w).mono fun _ _ ⟨he, hg⟩ => ⟨he, hg ▸ hw⟩), hK _ ?_⟩
  clear hK K
  refine wpQuiet_step (fun K hK => ?_)
  go_simp
  refine ⟨_, fun _ _ => rfl, hK _ ?_⟩
  clear hK K
  refine wpQuiet_nil ?_
  intro w2 hw2
  have HW := mkH (HG0.out.trans hw2)
  clear hw2
  go_wp2
  go_ret
  exact ⟨by rw [HE.out]; rfl, HW.out⟩
end Go.Proofs.YtcpmcfagibmboabGreat.Wf
