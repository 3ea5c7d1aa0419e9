/-
  A region that draws its order, whose operations hand values on, each value to one operation: what holds of each value while nobody has taken it. Nothing of the program.
-/
import Derived.Deep.RegionHeld3
import Derived.Deep.QuietTactic
namespace Go.Proofs.YtenkgpfeifflnaaGreat.Wx
open Go
set_option linter.unusedVariables false

def unl (l : Array Bool) : Nat := l.toList.countP (fun b => !b)
theorem countP_set : ∀ (l : List Bool) (i : Nat), l[i]? = some false → (l.set i true).countP (fun b => !b) + 1 = l.countP (fun b => !b)
  | [], i, h => by simp at h
  | b :: l, 0, h => by simp at h; subst h; simp
  | b :: l, i + 1, h => by
    have := countP_set l i (by simpa using h)
    simp only [List.set_cons_succ, List.countP_cons]
    omega
theorem unl_set {l : Array Bool} {i : Nat} (h : l[i]? = some false) : unl (l.setIfInBounds i true) + 1 = unl l := by
  unfold unl
  rw [Array.toList_setIfInBounds]
  exact countP_set l.toList i (by simpa using h)
theorem getD_false {l : Array Bool} {i : Nat} (h : l.getD i true = false) : l[i]? = some false := by
  by_cases hi : i < l.size
  · rw [Array.getElem?_eq_getElem hi]; simp [Array.getD, hi] at h; rw [h]
  · simp [Array.getD, hi] at h
theorem getD_true {l : Array Bool} {i : Nat} (h : l.getD i false = true) : l[i]? = some true := by
  by_cases hi : i < l.size
  · rw [Array.getElem?_eq_getElem hi]; simp [Array.getD, hi] at h; rw [h]
  · simp [Array.getD, hi] at h

section
variable {P : Program} {ops : Array Oper} {Q : Exit → Act → World → Prop} {S : World → Prop} {md : Region.Mode}

theorem ready_nil {listed : Array Bool} (h : unl listed = 0) : Region.ready md ops listed = [] := by
  apply List.eq_nil_iff_forall_not_mem.2
  intro i hi
  have h1 := getD_false (mem_ready.1 hi).1
  have := unl_set h1
  omega

/-- Whatever order: what is kept by each operation that may come. -/
theorem wpAnyH_inv (Inv : Array Bool → Act → World → Prop)
    (step : ∀ listed a w, Inv listed a w → S w → ∀ i ∈ Region.ready md ops listed, wpOp P ops Q i (fun a' w' => S w' ∧ Inv (listed.setIfInBounds i true) a' w') a w)
    (fin : ∀ listed a w, Inv listed a w → S w → Region.ready md ops listed = [] → Q .normal a w) :
    ∀ (fuel : Nat) (listed : Array Bool) (a : Act) (w : World), unl listed ≤ fuel → Inv listed a w → S w → wpAnyH P md ops Q S fuel listed a w
  | 0, listed, a, w, hf, hI, hS => ⟨ready_nil (by omega), fin listed a w hI hS (ready_nil (by omega))⟩
  | fuel + 1, listed, a, w, hf, hI, hS => by
    refine ⟨fun h => fin listed a w hI hS h, fun i hi => ?_⟩
    have h1 := unl_set (getD_false (mem_ready.1 hi).1)
    exact wpOp_mono (fun a' w' h => ⟨h.1, wpAnyH_inv Inv step fin fuel _ a' w' (by omega) h.2 h.1⟩) (step listed a w hI hS i hi)

/-- A frame in which some slots hold what x says. -/
def puts (dst : Nat → Tmp) (a0 : Act) (x : Nat → Value) : List Nat → Act
  | [] => a0
  | i :: U => (puts dst a0 x U).put (some (dst i)) (x i)
theorem put_put (a : Act) (d : Tmp) (u v : Value) : (a.put (some d) u).put (some d) v = a.put (some d) v := by
  simp [Act.put, Array.setIfInBounds_setIfInBounds]
theorem put_comm (a : Act) {d e : Tmp} (u v : Value) (h : d ≠ e) : (a.put (some d) u).put (some e) v = (a.put (some e) v).put (some d) u :=
  Act.put_comm a u v (fun d' hd he => by cases hd; cases he; exact h rfl)
theorem puts_same {dst : Nat → Tmp} {a0 : Act} {x : Nat → Value} {j : Nat} {v : Value} : ∀ (U : List Nat), j ∉ U → puts dst a0 (fun k => if k = j then v else x k) U = puts dst a0 x U
  | [], _ => rfl
  | i :: U, h => by
    rw [List.mem_cons, not_or] at h
    unfold puts
    rw [puts_same U h.2]
    simp [show i ≠ j from fun e => h.1 e.symm]
theorem puts_put {dst : Nat → Tmp} {a0 : Act} {x : Nat → Value} {j : Nat} {v : Value} : ∀ (U : List Nat), j ∈ U → U.Nodup → (∀ i ∈ U, ∀ k ∈ U, dst i = dst k → i = k) →
    (puts dst a0 x U).put (some (dst j)) v = puts dst a0 (fun k => if k = j then v else x k) U
  | [], h, _, _ => by cases h
  | i :: U, h, hn, hd => by
    rw [List.nodup_cons] at hn
    by_cases hij : i = j
    · subst hij
      simp only [puts]
      rw [put_put, puts_same U hn.1]
      simp
    · have hj : j ∈ U := by
        rcases List.mem_cons.1 h with h | h
        · exact absurd h.symm hij
        · exact h
      simp only [puts]
      rw [put_comm _ _ _ (fun e => hij (hd i (by simp) j (by simp [hj]) e)), puts_put U hj hn.2 (fun a ha b hb => hd a (by simp [ha]) b (by simp [hb]))]
      simp [hij]

/-- What is asked of a region's shape: all but U has come; who takes what; those that write come one behind the other. -/
def shape (md : Region.Mode) (ops : Array Oper) (U : List Nat) (dst cons : Nat → Nat) (deps : Nat → List Nat) (isW : Nat → Bool) (pre : List Nat) (listed : Array Bool) : Bool :=
  (List.range listed.size).all (fun j => U.contains j || listed[j]? == some true) &&
  U.all (fun i => (if pre.contains i then listed[i]? == some true && (!isW i || U.all (fun k => !isW k || !decide (k < i))) else listed[i]? == some false) && U.all (fun k => dst i != dst k || i == k) && (deps i).all (fun d => U.contains d && cons d == i && ((ops[i]?).map fun o => o.after.toList.any fun e => Region.binds md e && e.on == d).getD false)) &&
  U.all (fun j => !isW j || U.all (fun i => !isW i || !decide (i < j) || ((deps j).any (fun p => isW p && decide (i ≤ p)) && decide (cons i ≤ j) && isW (cons i) && U.contains (cons i)))) &&
  U.all (fun i => ((ops[i]?).map fun o => o.after.toList.all fun e => decide (e.on < i)).getD false)

/-- Whatever order comes: each operation finds what it takes, and leaves what it makes. -/
theorem wpAnyH_linear (U : List Nat) (dst cons : Nat → Nat) (deps : Nat → List Nat) (isW : Nat → Bool) (pre : List Nat) (F : Nat → Value → World → Prop) (R0 R1 : World → World → Prop) (a0 : Act) (x0 : Nat → Value) (listed0 : Array Bool) (w0 : World) (fuel : Nat)
    (hU : U.Nodup) (hsh : shape md ops U dst cons deps isW pre listed0 = true)
    (s0 : ∀ i ∈ U, ∀ v w w', F i v w → R0 w w' → F i v w') (s1 : ∀ i ∈ U, isW i = false → ∀ v w w', F i v w → R1 w w' → F i v w')
    (step : ∀ i ∈ U, i ∉ pre → ∀ x w, S w → (∀ d ∈ deps i, F d (x d) w) → wpOp P ops Q i (fun a' w' => ∃ v, a' = (puts dst a0 x U).put (some (dst i)) v ∧ S w' ∧ F i v w' ∧ (if isW i then R1 w w' else R0 w w')) (puts dst a0 x U) w)
    (fin : ∀ x w, S w → (∀ i ∈ U, cons i ∉ U → F i (x i) w) → Q .normal (puts dst a0 x U) w)
    (hpre : ∀ i ∈ pre, F i (x0 i) w0) (hf : unl listed0 ≤ fuel) (hS : S w0) (hc : ∀ i ∈ U, cons i ∉ U → ops.size ≤ cons i) (hz : listed0.size = ops.size) : wpAnyH P md ops Q S fuel listed0 (puts dst a0 x0 U) w0 := by
  simp only [shape, Bool.and_eq_true, List.all_eq_true, List.mem_range, Bool.or_eq_true, List.contains_iff_mem, beq_iff_eq, Bool.not_eq_true', List.any_eq_true, decide_eq_true_eq, decide_eq_false_iff_not, bne_iff_ne, ne_eq] at hsh
  obtain ⟨⟨⟨g1, g2⟩, g3⟩, g4⟩ := hsh
  have hin : ∀ i ∈ U, (i ∈ pre ∧ listed0[i]? = some true ∧ (isW i = true → ∀ k ∈ U, isW k = true → ¬ k < i)) ∨ (i ∉ pre ∧ listed0[i]? = some false) := fun i hi => by
    have h1 := (g2 i hi).1.1
    by_cases hp : i ∈ pre
    · left
      rw [if_pos hp] at h1
      simp only [Bool.and_eq_true, beq_iff_eq, Bool.or_eq_true, Bool.not_eq_true', List.all_eq_true, decide_eq_false_iff_not] at h1
      refine ⟨hp, h1.1, fun hw k hk hwk => ?_⟩
      rcases h1.2 with h | h
      · rw [hw] at h; cases h
      · rcases h k hk with h | h
        · rw [hwk] at h; cases h
        · exact h
    · right
      rw [if_neg hp] at h1
      exact ⟨hp, by simpa using h1⟩
  have hd : ∀ i ∈ U, ∀ k ∈ U, dst i = dst k → i = k := fun i hi k hk e => (((g2 i hi).1.2) k hk).resolve_left (fun h => h e)
  have hdep : ∀ i ∈ U, ∀ d ∈ deps i, d ∈ U ∧ cons d = i ∧ ((ops[i]?).map fun o => o.after.toList.any fun e => Region.binds md e && e.on == d).getD false = true := fun i hi d hd => by
    have := (g2 i hi).2 d hd
    exact ⟨this.1.1, this.1.2, this.2⟩
  have hwr : ∀ j ∈ U, isW j = true → ∀ i ∈ U, isW i = true → i < j → (∃ p ∈ deps j, isW p = true ∧ i ≤ p) ∧ cons i ≤ j ∧ isW (cons i) = true ∧ cons i ∈ U := fun j hj wj i hi wi hij => by
    rcases g3 j hj with h | h
    · rw [wj] at h; cases h
    · rcases h i hi with (h | h) | h
      · rw [wi] at h; cases h
      · exact absurd hij h
      · exact ⟨h.1.1.1, h.1.1.2, h.1.2, h.2⟩
  refine wpAnyH_inv (fun listed a w => ∃ x, a = puts dst a0 x U ∧ listed.size = ops.size ∧ (∀ j, j ∉ U → listed[j]? = listed0[j]?) ∧ (∀ i ∈ U, listed[i]? = some true → listed[cons i]? ≠ some true → F i (x i) w) ∧
      (∀ i ∈ U, ∀ j ∈ U, isW i = true → isW j = true → i < j → listed[j]? = some true → listed[i]? = some true) ∧ (∀ i ∈ U, i ∈ pre → listed[i]? = some true)) ?_ ?_ fuel listed0 _ w0 hf ?_ hS
  · rintro listed a w ⟨x, rfl, hsz, hout, hfact, hcl, hpl⟩ hSw i hi
    obtain ⟨hun, o, ho, haft⟩ := mem_ready.1 hi
    have hun := getD_false hun
    have hilt : i < listed.size := (Array.getElem?_eq_some_iff.1 hun).1
    have hiU : i ∈ U := by
      rcases g1 i (by rw [hz]; omega) with h | h
      · exact h
      · by_cases hiU : i ∈ U
        · exact hiU
        · rw [hout i hiU, h] at hun; cases hun
    have hdl : ∀ d ∈ deps i, listed[d]? = some true := fun d hdm => by
      have h3 := (hdep i hiU d hdm).2.2
      rw [ho] at h3
      simp only [Option.map_some, Option.getD_some, List.any_eq_true, Bool.and_eq_true, beq_iff_eq] at h3
      obtain ⟨e, he, hb, rfl⟩ := h3
      exact getD_true (haft e (by simpa using he) hb)
    have hFd : ∀ d ∈ deps i, F d (x d) w := fun d hdm => by
      have h3 := hdep i hiU d hdm
      refine hfact d h3.1 (hdl d hdm) ?_
      rw [h3.2.1, hun]; simp
    have hip : i ∉ pre := fun h => by have := hpl i hiU h; rw [hun] at this; cases this
    refine wpOp_mono ?_ (step i hiU hip x w hSw hFd)
    rintro a' w' ⟨v, rfl, hS', hFi, hR⟩
    have hset : ∀ k, (listed.setIfInBounds i true)[k]? = if k = i then some true else listed[k]? := fun k => by
      by_cases hk : k = i
      · subst hk; rw [if_pos rfl, Array.getElem?_setIfInBounds_self_of_lt hilt]
      · rw [if_neg hk, Array.getElem?_setIfInBounds_ne (fun e => hk e.symm)]
    refine ⟨hS', fun k => if k = i then v else x k, puts_put U hiU hU hd, by simpa using hsz, fun j hj => ?_, fun k hk hkl hkc => ?_, fun i1 h1 j1 h2 w1 w2 hlt hl => ?_, fun i1 h1 h2 => ?_⟩
    · rw [hset, if_neg (fun (e : j = i) => hj (e ▸ hiU))]; exact hout j hj
    · rw [hset] at hkl hkc
      by_cases hki : k = i
      · subst hki; simpa using hFi
      · rw [if_neg hki] at hkl
        have hci : cons k ≠ i := fun e => by rw [if_pos e] at hkc; exact hkc rfl
        rw [if_neg hci] at hkc
        have hF := hfact k hk hkl hkc
        simp only [hki, if_false]
        cases hwi : isW i with
        | false => rw [hwi] at hR; exact s0 k hk _ _ _ hF (by simpa using hR)
        | true =>
          rw [hwi] at hR
          cases hwk : isW k with
          | false => exact s1 k hk hwk _ _ _ hF (by simpa using hR)
          | true =>
            exfalso
            rcases Nat.lt_or_ge k i with hlt | hge
            · obtain ⟨⟨p, hp, wp, hkp⟩, -⟩ := hwr i hiU hwi k hk hwk hlt
              have hpl := hdl p hp
              have hpU := (hdep i hiU p hp).1
              rcases Nat.lt_or_ge k p with h | h
              · obtain ⟨-, hcp, hcw, hcU⟩ := hwr p hpU wp k hk hwk h
                rcases Nat.lt_or_ge (cons k) p with h5 | h5
                · exact hkc (hcl (cons k) hcU p hpU hcw wp h5 hpl)
                · have : cons k = p := by omega
                  rw [this] at hkc; exact hkc hpl
              · have : k = p := by omega
                subst this
                exact hci (hdep i hiU k hp).2.1
            · have := hcl i hiU k hk hwi hwk (by omega) hkl
              rw [hun] at this; cases this
    · rw [hset] at hl ⊢
      by_cases h3 : i1 = i
      · rw [if_pos h3]
      · rw [if_neg h3]
        by_cases h4 : j1 = i
        · subst h4
          obtain ⟨⟨p, hp, wp, hkp⟩, -⟩ := hwr j1 h2 w2 i1 h1 w1 hlt
          rcases Nat.lt_or_ge i1 p with h | h
          · exact hcl i1 h1 p (hdep j1 h2 p hp).1 w1 wp h (hdl p hp)
          · have : i1 = p := by omega
            rw [this]; exact hdl p hp
        · rw [if_neg h4] at hl
          exact hcl i1 h1 j1 h2 w1 w2 hlt hl
    · rw [hset]
      by_cases h3 : i1 = i
      · rw [if_pos h3]
      · rw [if_neg h3]; exact hpl i1 h1 h2
  · rintro listed a w ⟨x, rfl, hsz, hout, hfact, hcl, hpl⟩ hSw hrd
    have hall : ∀ n i, i < n → i < listed.size → listed[i]? = some true := by
      intro n
      induction n with
      | zero => intro i hi; omega
      | succ n ih =>
        intro i hi hl
        by_cases hiU : i ∈ U
        · by_cases ht : listed[i]? = some true
          · exact ht
          · exfalso
            have hfalse : listed[i]? = some false := by
              rw [Array.getElem?_eq_getElem hl] at ht ⊢
              cases hb : listed[i] with
              | true => rw [hb] at ht; exact absurd rfl ht
              | false => rfl
            have ho : ops[i]? = some ops[i] := Array.getElem?_eq_getElem (by omega)
            have h4 := g4 i hiU
            rw [ho] at h4
            simp only [Option.map_some, Option.getD_some, List.all_eq_true, decide_eq_true_eq] at h4
            have : i ∈ Region.ready md ops listed := mem_ready.2 ⟨by simp [Array.getD, hl, (Array.getElem?_eq_some_iff.1 hfalse).2], ops[i], ho, fun e he hb => by
              have h5 := h4 e (by simpa using he)
              have h6 := ih e.on (by omega) (by omega)
              obtain ⟨h7, h8⟩ := Array.getElem?_eq_some_iff.1 h6
              simp [Array.getD, h7, h8]⟩
            rw [hrd] at this
            cases this
        · rw [hout i hiU]
          rcases g1 i (by omega) with h | h
          · exact absurd h hiU
          · exact h
    refine fin x w hSw (fun i hi hci => hfact i hi (hall (i + 1) i (by omega) ?_) ?_)
    · rcases hin i hi with h | h
      · have := (Array.getElem?_eq_some_iff.1 h.2.1).1; omega
      · have := (Array.getElem?_eq_some_iff.1 h.2).1; omega
    · rw [Array.getElem?_eq_none (by have := hc i hi hci; omega)]; simp
  · refine ⟨x0, rfl, hz, fun _ _ => rfl, fun i hi hl _ => ?_, fun i hi j hj hwi hwj hij hl => ?_, fun i hi hp => ?_⟩
    · rcases hin i hi with h | h
      · exact hpre i h.1
      · rw [h.2] at hl; cases hl
    · rcases hin j hj with h | h
      · exact absurd hij (h.2.2 hwj i hi hwi)
      · rw [h.2] at hl; cases hl
    · rcases hin i hi with h | h
      · exact h.2.1
      · exact absurd hp h.1

theorem put_self (a : Act) (d : Tmp) : a.put (some d) (a.tmps.getD d undef) = a := by
  cases a with
  | mk tmps defers =>
    simp only [Act.put, Act.mk.injEq, and_true]
    apply Array.ext_getElem?
    intro k
    by_cases hk : d = k
    · subst hk
      by_cases hl : d < tmps.size
      · rw [Array.getElem?_setIfInBounds_self_of_lt hl]; simp [Array.getD, hl]
      · rw [Array.getElem?_eq_none (by simpa using hl), Array.getElem?_eq_none (by simpa using hl)]
    · rw [Array.getElem?_setIfInBounds_ne hk]
theorem puts_self (dst : Nat → Tmp) (a : Act) : ∀ U : List Nat, puts dst a (fun i => a.tmps.getD (dst i) undef) U = a
  | [] => rfl
  | i :: U => by unfold puts; rw [puts_self dst a U, put_self]
theorem wpAnyH_lin {fuel : Nat} {listed0 : Array Bool} {a : Act} {w0 : World} (U : List Nat) (dst cons : Nat → Nat) (deps : Nat → List Nat) (isW : Nat → Bool) (pre : List Nat) (F : Nat → Value → World → Prop) (R0 R1 : World → World → Prop)
    (hU : U.Nodup) (hsh : shape md ops U dst cons deps isW pre listed0 = true)
    (s0 : ∀ i ∈ U, ∀ v w w', F i v w → R0 w w' → F i v w') (s1 : ∀ i ∈ U, isW i = false → ∀ v w w', F i v w → R1 w w' → F i v w')
    (step : ∀ i ∈ U, i ∉ pre → ∀ x w, S w → (∀ d ∈ deps i, F d (x d) w) → wpOp P ops Q i (fun a' w' => ∃ v, a' = (puts dst a x U).put (some (dst i)) v ∧ S w' ∧ F i v w' ∧ (if isW i then R1 w w' else R0 w w')) (puts dst a x U) w)
    (fin : ∀ x w, S w → (∀ i ∈ U, cons i ∉ U → F i (x i) w) → Q .normal (puts dst a x U) w)
    (hpre : ∀ i ∈ pre, F i (a.tmps.getD (dst i) undef) w0) (hf : unl listed0 ≤ fuel) (hS : S w0) (hc : ∀ i ∈ U, cons i ∉ U → ops.size ≤ cons i) (hz : listed0.size = ops.size) : wpAnyH P md ops Q S fuel listed0 a w0 := by
  have := wpAnyH_linear (P := P) (Q := Q) (S := S) (md := md) U dst cons deps isW pre F R0 R1 a (fun i => a.tmps.getD (dst i) undef) listed0 w0 fuel hU hsh s0 s1 step fin hpre hf hS hc hz
  rwa [puts_self] at this

theorem wanted_plain {o : Oper} {f : Nat → Option Bool} (hg : o.guard = none) : Region.wanted o f = true := by simp [Region.wanted, hg]
theorem op_value {i : Nat} {o : Oper} {a : Act} {w w' : World} {v : Value} {K : Act → World → Prop} (ho : ops[i]? = some o) (hg : o.guard = none) (hrun : (execOp a.eval o).run P w = .ok (.value v) w') (hK : K (a.put o.dst v) w') : wpOp P ops Q i K a w := by
  refine wpOp_step ho (fun K' hK' => ?_)
  rw [if_pos (wanted_plain hg)]
  unfold Oper.wp
  rw [hrun]
  exact hK' _ _ hK
theorem op_call {i : Nat} {o : Oper} {a : Act} {w : World} {f : FuncId} {args : Array Value} {K : Act → World → Prop} (ho : ops[i]? = some o) (hg : o.guard = none) (hrun : (execOp a.eval o).run P w = .ok (.enter f args) w)
    (H : Calls P f args w fun e w' => ∃ v, e = .returned v ∧ K (a.put o.dst v) w') : wpOp P ops Q i K a w := by
  refine wpOp_step ho (fun K' hK' => ?_)
  rw [if_pos (wanted_plain hg)]
  unfold Oper.wp
  rw [hrun]
  refine Calls.mono H ?_
  rintro e w' ⟨v, rfl, h⟩
  exact hK' _ _ h
/-- One operation that yields its value in every world of the class. -/
theorem q_yield {C : World → Prop} {Q : Act → Prop} {a : Act} {o : Oper} {rest : List Oper} {v : Value} (hw : Region.wanted o (yielded ops a.tmps) = true) (hrun : ∀ w, C w → (execOp a.eval o).run P w = .ok (.value v) w)
    (h : wpQuiet P ops C Q rest (a.put o.dst v)) : wpQuiet P ops C Q (o :: rest) a := by
  unfold wpQuiet
  rw [if_pos hw]
  refine ⟨v, fun w hC => ?_, h⟩
  unfold Oper.quietAt
  rw [hrun w hC]
  exact ⟨rfl, rfl⟩
theorem run_ld {o : Oper} {a : Act} {ty : TypeId} {x : Operand} {p : Addr} {v : Value} {w : World} (ho : o.op = .load ty x) (hx : a.eval x = .pointer (some p)) (h : (loadVar ty p).run P w = .ok v w) : (execOp a.eval o).run P w = .ok (.value v) w := by
  unfold execOp
  simp only [ho, Instr.loadAt, Instr.sureAddr, hx, Sem.run_bind, Sem.run_pure, Result.andThen_ok, h]
end
end Go.Proofs.YtenkgpfeifflnaaGreat.Wx
