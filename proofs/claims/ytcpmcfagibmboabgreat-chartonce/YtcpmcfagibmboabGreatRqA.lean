/-
  ChLd2 RgG RgR ChLf, joined by mrg.py.
-/
import Derived.Test.YtcpmcfagibmboabGreatChLc
import Derived.Sort.QuietIn
import Derived.Deep.QuietTactic
import Derived.Deep.RegionHeld3
import Derived.Deep.LoopGhost
import Derived.OrdersIn
import Derived.ControlIn
import Derived.Test.YtcpmcfagibmboabGreatChLd

namespace Go.Proofs.YtcpmcfagibmboabGreat.Lc2
open Go.RowKit Go.Shelf Kt Gf Gk Li
open Lc (grown_of_below')
set_option linter.unusedVariables false
set_option linter.unusedSimpArgs false
set_option maxRecDepth 20000
attribute [local go_sem] Oper.semAt_some

theorem chunk_any (w : World) (a : Option Addr) (m c : Nat) : Calls Tryz.prog 54 #[.slice a m c, .int .i64 2] w fun e w' => e = .returned (.func (.func 81) #[] #[.pointer (some ⟨w.heap.size, 0, none⟩), .pointer (some ⟨w.heap.size + 1, 0, none⟩)]) ∧ w' = (w.alloc (.cells #[.slice a m c] 74)).alloc (.cells #[.int .i64 2] 3) := by
  have c0 : ((w.alloc (.cells #[.slice a m c] 74)).alloc (.cells #[.int .i64 2] 3)).cell? ⟨w.heap.size + 1, 0, none⟩ = some (.int .i64 2) := (Bx.new1 w _ _ _).cell 0 _ rfl
  go_enter Tryz.func54, Tryz.ntmps54
  go_wp2
  go_ret
  exact ⟨rfl, rfl⟩

/-- What is told of a row of m numbers at b, off: the k-th two. -/
def arC (b off m : Nat) (k : Nat) : Array Value := #[.slice (some ⟨b, off + 2 * k, none⟩) (min 2 (m - 2 * k)) (min 2 (m - 2 * k))]

set_option maxRecDepth 100000 in
set_option maxHeartbeats 4000000 in
theorem chunk_seq (n : Nat) (hn : 1 ≤ n) (Q : Nat → Prop) (sb nb : Nat) {w : World} {a : Option Addr} {b off m c : Nat} (hs : Bx w sb #[.slice a m c] 74) (hnb : Bx w nb #[.int .i64 2] 3)
    (hQs : ¬ Q sb) (hQn : ¬ Q nb) (hm : m ≤ c) (hm2 : m ≤ 1000000) (hc : c ≤ 9223372036854775807) (ha : 0 < m → a = some ⟨b, off, none⟩) :
    SeqZ Tryz.prog n 81 #[.pointer (some ⟨sb, 0, none⟩), .pointer (some ⟨nb, 0, none⟩)] (arC b off m) Q (List.range ((m + 1) / 2)) w := fun lp J Z W hW hlp hlW hJ hZ hY h0 => by
  have hsW := hs.bel hW
  have hnW := hnb.bel hW
  have HNE : Hid (¬ Q sb ∧ sb ≠ lp ∧ ¬ Q nb ∧ nb ≠ lp) := mkH ⟨hQs, by have := hs.lt; omega, hQn, by have := hnb.lt; omega⟩
  have HJ0 := mkH (h0 W.heap.size (Nat.le_refl _))
  have HS0 := mkH hsW
  have HN0 := mkH hnW
  have HB : Hid (∀ q, q = sb ∨ q = nb → q < W.heap.size) := mkH (fun q h => by rcases h with rfl | rfl; exact hsW.lt; exact hnW.lt)
  clear hs hnb hsW hnW hQs hQn h0
  refine callsIn_of_wp Tryz.func81 rfl trivial ?_ rfl
  simp only [Tryz.ntmps81, List.size_toArray, List.length_cons, List.length_nil, Nat.reduceAdd, Nat.reduceSub, Array.replicate_succ, Array.replicate_zero, List.push_toArray, List.append_toArray, List.nil_append, List.cons_append]
  gi_wp2_with fail
  gi_loopw [4] (fun i wr => ∃ k j : Nat, j = 2 * k ∧ k ≤ (m + 1) / 2 ∧ i = .int .i64 (j : Int) ∧ Hid (J W.heap.size k wr) ∧ Hid (Bx wr sb #[.slice a m c] 74) ∧ Hid (Bx wr nb #[.int .i64 2] 3) ∧ W.heap.size ≤ wr.heap.size) (fun i _ => m + 2 - (intOf i).toNat)
  case atStart => exact ⟨0, 0, rfl, Nat.zero_le _, rfl, HJ0, HS0, HN0, Nat.le_refl _⟩
  case round =>
    obtain ⟨k, j, hj, hk, rfl, HJ, HS, HN, hmw⟩ := hrel
    clear HJ0 HS0 HN0
    have c0 : wr.cell? ⟨sb, 0, none⟩ = some (.slice a m c) := HS.out.cell 0 _ rfl
    have c1 : wr.cell? ⟨nb, 0, none⟩ = some (.int .i64 2) := HN.out.cell 0 _ rfl
    rcases Nat.lt_or_ge j m with hkl | hkl
    · obtain rfl := ha (by omega)
      have hk1 : (j : Int) < (m : Int) := by omega
      have hk3 : (j : Int) ≤ (m : Int) := by omega
      have hk4 : (0 : Int) ≤ (j : Int) := by omega
      have hk2 : k < (m + 1) / 2 := by omega
      have HJK := mkH hj
      clear hj
      gi_wp2_with fail
      gi_quiet (fail)
      obtain ⟨q, hq, hqi⟩ : ∃ q : Nat, q = min 2 (m - j) ∧ min (2 : Int) ((m - j : Nat) : Int) = (q : Int) := ⟨min 2 (m - j), rfl, by omega⟩
      rw [hqi]
      obtain ⟨W5, hW5⟩ : ∃ W5, W5 = wr.drewN nq := ⟨_, rfl⟩
      rw [← hW5]
      have hb5 : Below wr.heap.size wr W5 := by rw [hW5]; exact below_drewN (Below.refl _ _) _
      have hJ5 : J W.heap.size k W5 := hJ _ k wr W5 none HJ.out (grown_of_below' hb5) (fun r e => by cases e)
      have hx : (List.range ((m + 1) / 2))[k]? = some k := by rw [List.getElem?_range hk2]
      obtain ⟨fn, tmps, assign, body, hy, hR⟩ := hY _ k k W5 (Nat.le_refl _) (Nat.le_trans hmw hb5.size) hJ5 hx
      have hs5 := HS.out.bel hb5
      have hn5 := HN.out.bel hb5
      have c0 : W5.cell? ⟨sb, 0, none⟩ = some (.slice (some ⟨b, off, none⟩) m c) := hs5.cell 0 _ rfl
      have c1 : W5.cell? ⟨nb, 0, none⟩ = some (.int .i64 2) := hn5.cell 0 _ rfl
      have HS5 := mkH hs5
      have HN5 := mkH hn5
      have hm5 : W.heap.size ≤ W5.heap.size := Nat.le_trans hmw hb5.size
      simp only [arC] at hy
      rw [← HJK.out, ← hq] at hy
      have hq1 : 0 < q := by omega
      have hq3 : q ≤ 2 := by omega
      have hjq : j + q ≤ m := by omega
      have hji : (j : Int) + (q : Int) ≤ (m : Int) := by omega
      have hjc : (j : Int) + (q : Int) ≤ (c : Int) := by omega
      have HQ := mkH hq
      clear hb5 hJ5 hx hs5 hn5 hqi hq hW5 HJ HS HN hmw
      gi_wp2_with fail
      refine hR.mono ?_
      rintro e W3 (⟨rfl, hJ3, hk3⟩ | ⟨rfl, hZ3⟩)
      · have hS3 : Bx W3 sb #[.slice (some ⟨b, off, none⟩) m c] 74 := (hk3.block sb (HB.out sb (.inl rfl)) HS5.out.lt (fun h => h.elim HNE.out.1 HNE.out.2.1)).trans HS5.out
        have hN3 : Bx W3 nb #[.int .i64 2] 3 := (hk3.block nb (HB.out nb (.inr rfl)) HN5.out.lt (fun h => h.elim HNE.out.2.2.1 HNE.out.2.2.2)).trans HN5.out
        have HS3 := mkH hS3
        have HN3 := mkH hN3
        have HJ3 := mkH hJ3
        have hm3 : W.heap.size ≤ W3.heap.size := Nat.le_trans hm5 hk3.size
        have c2 : W3.cell? ⟨nb, 0, none⟩ = some (.int .i64 2) := hN3.cell 0 _ rfl
        clear hJ3 hk3 hy hR c0 c1 hS3 hN3 HS5 HN5
        gi_wp2
        go_roundw
        case rel => exact ⟨k + 1, j + 2, by have := HJK.out; omega, by omega, by go_num, HJ3, HS3, HN3, hm3⟩
        case measure => simp [intOf]; omega
      · have HZ3 := mkH hZ3
        clear hZ3 hy hR c0 c1
        gi_wp2
        refine bodyPost_ret (v := .tuple #[]) (results_none rfl _ _ _) rfl ?_
        exact ⟨⟨_, rfl⟩, W.heap.size, Nat.le_refl _, .inr ⟨k + 1, by rw [List.length_range]; omega, HZ3.out⟩⟩
    · have hk1 : ¬ (j : Int) < (m : Int) := by omega
      obtain rfl : k = (m + 1) / 2 := by omega
      gi_wp2
      refine bodyPost_end (results_none rfl _ _ _) rfl ?_
      exact ⟨⟨_, rfl⟩, W.heap.size, Nat.le_refl _, .inl (by first | exact HJ.out | (rw [List.length_range]; exact HJ.out))⟩
end Go.Proofs.YtcpmcfagibmboabGreat.Lc2

namespace Go.Proofs.YtcpmcfagibmboabGreat.Rg
open Go
set_option linter.unusedVariables false

section
variable {P : Program} {ops : Array Oper} {Q : Exit → Act → World → Prop} {md : Region.Mode} {S : World → Prop} {z : Nat}

/-- What came up has come up behind all that it waits for. -/
def Clo (md : Region.Mode) (ops : Array Oper) (listed : Array Bool) : Prop :=
  ∀ (k : Nat) (ok : Oper), ops[k]? = some ok → listed.getD k false = true → ∀ e ∈ ok.after, Region.binds md e = true → listed.getD e.on false = true
theorem Clo.start (n : Nat) : Clo md ops (Array.replicate n false) := fun k ok hk hl => by
  simp [Array.getElem?_replicate] at hl
  split at hl <;> simp at hl
theorem Clo.add {listed : Array Bool} {i : Nat} (h : Clo md ops listed) (hi : i ∈ Region.ready md ops listed) : Clo md ops (listed.setIfInBounds i true) := by
  intro k ok hk hl e he hb
  obtain ⟨h0, o, ho, hall⟩ := mem_ready.1 hi
  by_cases hki : i = k
  · subst hki
    rw [hk] at ho
    cases ho
    exact getD_set_true (hall e he hb)
  · rw [getD_set_ne false hki] at hl
    exact getD_set_true (h k ok hk hl e he hb)
/-- b waits for a. -/
def waits (md : Region.Mode) (ops : Array Oper) (b a : Nat) : Bool := match ops[b]? with
  | some o => o.after.any (fun e => Region.binds md e && e.on == a)
  | none => false
def chainB (md : Region.Mode) (ops : Array Oper) : List Nat → Bool
  | a :: b :: t => waits md ops b a && chainB md ops (b :: t)
  | _ => true
theorem waits_spec {a b : Nat} (h : waits md ops b a = true) : ∃ o, ops[b]? = some o ∧ ∃ e ∈ o.after, Region.binds md e = true ∧ e.on = a := by
  unfold waits at h
  split at h
  · rename_i o ho
    rw [Array.any_eq_true] at h
    obtain ⟨i, hi, h2⟩ := h
    simp only [Bool.and_eq_true, beq_iff_eq] at h2
    exact ⟨o, ho, _, Array.getElem_mem hi, h2.1, h2.2⟩
  · cases h
theorem chain_not {listed : Array Bool} (hc : Clo md ops listed) : ∀ (l : List Nat) (i : Nat), chainB md ops (i :: l) = true → listed.getD i false = false → l ≠ [] → (i :: l).getLast? = some z → z ∉ Region.ready md ops listed ∧ listed.getD z false = false
  | [], i, _, _, h, _ => absurd rfl h
  | b :: t, i, h, hi, _, hl => by
    have h' : waits md ops b i = true ∧ chainB md ops (b :: t) = true := by simpa [chainB] using h
    obtain ⟨o, ho, e, he, hb, rfl⟩ := waits_spec h'.1
    have hbn : listed.getD b false = false := by
      cases hq : listed.getD b false with
      | false => rfl
      | true => have := hc b o ho hq e he hb; rw [hi] at this; cases this
    by_cases ht : t = []
    · subst ht
      have hzb : z = b := by simpa using hl.symm
      subst hzb
      refine ⟨fun hz => ?_, hbn⟩
      obtain ⟨-, o', ho', hall⟩ := mem_ready.1 hz
      rw [ho] at ho'
      cases ho'
      have := hall e he hb
      rw [hi] at this
      cases this
    · exact chain_not hc t b h'.2 hbn ht (by rw [List.getLast?_cons_cons] at hl; exact hl)

/-- Whatever order is picked from here on; S holds as long as z is still to come. -/
def anyG (P : Program) (md : Region.Mode) (ops : Array Oper) (Q : Exit → Act → World → Prop) (S : World → Prop) (z : Nat) : Nat → Array Bool → Act → World → Prop
  | 0, listed, a, w => Region.ready md ops listed = [] ∧ Q .normal a w
  | fuel + 1, listed, a, w =>
    Clo md ops listed → ((Region.ready md ops listed = [] → Q .normal a w) ∧
    ∀ i ∈ Region.ready md ops listed, wpOp P ops Q i (fun a' w' => ((listed.setIfInBounds i true).getD z false = false → S w') ∧ anyG P md ops Q S z fuel (listed.setIfInBounds i true) a' w') a w)

theorem any_of_G : ∀ (fuel : Nat) (listed : Array Bool) (a : Act) (w : World), Clo md ops listed → anyG P md ops Q S z fuel listed a w → wpAny P md ops Q fuel listed a w
  | 0, _, _, _, _, h => h
  | fuel + 1, _, _, _, hc, h => ⟨(h hc).1, fun i hi => wpOp_mono (fun a' w' h' => any_of_G fuel _ a' w' (hc.add hi) h'.2) ((h hc).2 i hi)⟩

theorem unl {listed : Array Bool} {i : Nat} (hr : i ∈ Region.ready md ops listed) : listed.getD i false = false := by
  have h0 := (mem_ready.1 hr).1
  rcases Nat.lt_or_ge i listed.size with h' | h'
  · simp [h'] at h0 ⊢; exact h0
  · simp [Array.getElem?_eq_none h'] at h0
theorem anyG_first {i : Nat} {oi : Oper} {v : Value} (hi : ops[i]? = some oi) (hsel : ∀ (j : Nat) (o : Oper) cs b, ops[j]? = some o → o.op ≠ .select cs b)
    (hQ : ∀ c a w, Q (.panic c) (a.put oi.dst v) w → Q (.panic c) a w) (T : World → Prop) (hiz : i ≠ z)
    (hT : ∀ listed w, Clo md ops listed → i ∈ Region.ready md ops listed → (listed.getD z false = false → S w) → T w)
    (hT2 : ∀ listed j w, Clo md ops listed → i ∈ Region.ready md ops listed → j ∈ Region.ready md ops listed → j ≠ i → (((listed.setIfInBounds i true).setIfInBounds j true).getD z false = false → S w) → (listed.setIfInBounds j true).getD z false = false → S w) :
    ∀ (fuel : Nat) (listed : Array Bool) (a : Act) (w : World),
      (∀ j oj, ops[j]? = some oj → j ≠ i → listed.getD j true = false → (∀ e ∈ oj.after, Region.binds md e = true → e.on ≠ i) → oi.apart ops oj = true) →
      i ∈ Region.ready md ops listed → YieldsIf P ops T oi v a → (listed.getD z false = false → S w) →
      anyG P md ops Q S z fuel (listed.setIfInBounds i true) (a.put oi.dst v) w → anyG P md ops Q S z (fuel + 1) listed a w := by
  intro fuel
  have self : ∀ (listed : Array Bool) (w : World), (listed.getD z false = false → S w) → (listed.setIfInBounds i true).getD z false = false → S w := fun listed w h h2 => h (by rw [getD_set_ne false hiz] at h2; exact h2)
  induction fuel with
  | zero =>
    intro listed a w _ hr hy hS H hc
    refine ⟨fun h => (by rw [h] at hr; cases hr), fun j hj => ?_⟩
    by_cases hji : j = i
    · subst hji; exact hy.wpOp hi (hT listed w hc hr hS) ⟨self listed w hS, H⟩
    · have := ready_mono hj hji
      rw [H.1] at this
      cases this
  | succ fuel ih =>
    intro listed a w hfree hr hy hS H hc
    refine ⟨fun h => (by rw [h] at hr; cases hr), fun j hj => ?_⟩
    by_cases hji : j = i
    · subst hji; exact hy.wpOp hi (hT listed w hc hr hS) ⟨self listed w hS, H⟩
    · have h1 := (H (hc.add hr)).2 j (ready_mono hj hji)
      have hun := unl hr
      obtain ⟨hjun, oj, hoj, hall⟩ := mem_ready.1 hj
      have hnot : ∀ e ∈ oj.after, Region.binds md e = true → e.on ≠ i := fun e he hb heq => by
        have h1 := hall e he hb
        rw [heq, hun] at h1
        cases h1
      have h2 := wpOp_putIf hoj (hfree j oj hoj hji hjun hnot) (fun cs b => hsel i oi cs b hi) (fun cs b => hsel j oj cs b hoj) hQ hy h1
      have hfree' : ∀ k ok, ops[k]? = some ok → k ≠ i → (listed.setIfInBounds j true).getD k true = false →
          (∀ e ∈ ok.after, Region.binds md e = true → e.on ≠ i) → oi.apart ops ok = true := fun k ok hk hki hun hno => by
        refine hfree k ok hk hki ?_ hno
        by_cases hjk : j = k
        · subst hjk; exact hjun
        · rw [getD_set_ne true hjk] at hun; exact hun
      refine wpOp_mono (fun a' w' h3 => ?_) h2
      have hS' := hT2 listed j w' hc hr hj hji h3.2.1
      refine ⟨hS', ih (listed.setIfInBounds j true) a' w' hfree' (ready_mono hr (Ne.symm hji)) h3.1 hS' ?_⟩
      rw [Array.setIfInBounds_comm _ _ hji]
      exact h3.2.2

/-- Take number i first: in every world that meets S it yields v, and z waits for it. -/
theorem anyG_take {i : Nat} {oi : Oper} {v : Value} {fuel : Nat} {listed : Array Bool} {a : Act} {w : World} (hi : ops[i]? = some oi)
    (hs : Region.noSelect ops = true) (hf : Region.free md ops listed i = true) (hr : (Region.ready md ops listed).contains i = true)
    (ch : List Nat) (hch : (chainB md ops (i :: ch) && !ch.isEmpty && ((i :: ch).getLast? == some z) && (i != z)) = true)
    (hQ : ∀ c a w, Q (.panic c) (a.put oi.dst v) w → Q (.panic c) a w) (hy : YieldsIf P ops S oi v a) (hS : S w)
    (h : anyG P md ops Q S z fuel (listed.setIfInBounds i true) (a.put oi.dst v) w) : anyG P md ops Q S z (fuel + 1) listed a w := by
  simp only [Bool.and_eq_true, beq_iff_eq, Bool.not_eq_true', List.isEmpty_eq_false_iff, bne_iff_ne, ne_eq] at hch
  obtain ⟨⟨⟨c1, c2⟩, c3⟩, c4⟩ := hch
  refine anyG_first hi (Region.noSelect_spec hs) hQ S c4 (fun listed w hc hr hS => hS (chain_not hc ch i c1 (unl hr) c2 c3).2) (fun listed j w hc hr hj hji h _ => ?_) fuel listed a w (Region.free_spec hi hf) (by simpa using hr) hy (fun _ => hS) h
  have hcn := chain_not hc ch i c1 (unl hr) c2 c3
  have hjz : j ≠ z := fun e => hcn.1 (by rw [← e]; exact hj)
  refine h ?_
  rw [getD_set_ne false hjz, getD_set_ne false c4]
  exact hcn.2
/-- Take number i first: it yields v in whatever world. -/
theorem anyG_pure {i : Nat} {oi : Oper} {v : Value} {fuel : Nat} {listed : Array Bool} {a : Act} {w : World} (hi : ops[i]? = some oi)
    (hs : Region.noSelect ops = true) (hf : Region.free md ops listed i = true) (hr : (Region.ready md ops listed).contains i = true) (hiz : (i != z) = true)
    (hQ : ∀ c a w, Q (.panic c) (a.put oi.dst v) w → Q (.panic c) a w) (hy : YieldsIf P ops (fun _ => True) oi v a) (hS : listed.getD z false = false → S w)
    (h : anyG P md ops Q S z fuel (listed.setIfInBounds i true) (a.put oi.dst v) w) : anyG P md ops Q S z (fuel + 1) listed a w := by
  have hiz' : i ≠ z := by simpa using hiz
  refine anyG_first hi (Region.noSelect_spec hs) hQ (fun _ => True) hiz' (fun _ _ _ _ _ => trivial) (fun listed j w hc hr hj hji h h2 => h ?_) fuel listed a w (Region.free_spec hi hf) (by simpa using hr) hy hS h
  rw [Array.setIfInBounds_comm _ _ (Ne.symm hji), getD_set_ne false hiz']
  exact h2

/-- Each of the operations rs comes up next. -/
def AllG (P : Program) (md : Region.Mode) (ops : Array Oper) (Q : Exit → Act → World → Prop) (S : World → Prop) (z fuel : Nat) (listed : Array Bool) (a : Act) (w : World) (rs : List Nat) : Prop :=
  ∀ i ∈ rs, wpOp P ops Q i (fun a' w' => ((listed.setIfInBounds i true).getD z false = false → S w') ∧ anyG P md ops Q S z fuel (listed.setIfInBounds i true) a' w') a w
theorem AllG.nil {fuel : Nat} {listed : Array Bool} {a : Act} {w : World} : AllG P md ops Q S z fuel listed a w [] := fun _ h => by cases h
theorem AllG.cons {fuel : Nat} {listed : Array Bool} {a : Act} {w : World} {i : Nat} {o : Oper} {rs : List Nat} (ho : ops[i]? = some o)
    (h : ∀ K' : Act → World → Prop, Shut (∀ a w, S w → (S w → anyG P md ops Q S z fuel (listed.setIfInBounds i true) a w) → K' a w) → if Region.wanted o (yielded ops a.tmps) = true then Oper.wp P o a w K' Q else K' (a.put o.dst undef) w)
    (hs : AllG P md ops Q S z fuel listed a w rs) : AllG P md ops Q S z fuel listed a w (i :: rs) := fun j hj => by
  rcases List.mem_cons.1 hj with rfl | hj
  · exact wpOp_step ho (fun K' hK => h K' (fun a w hS hW => hK a w ⟨fun _ => hS, hW hS⟩))
  · exact hs j hj
/-- The last one. -/
theorem set_self {listed : Array Bool} (hl : z < listed.size) : (listed.setIfInBounds z true).getD z false = true := by
  simp [hl]
theorem AllG.last {fuel : Nat} {listed : Array Bool} {a : Act} {w : World} {o : Oper} (ho : ops[z]? = some o) (hl : Nat.ble (z + 1) listed.size = true)
    (h : ∀ K' : Act → World → Prop, Shut (∀ a w, anyG P md ops Q S z fuel (listed.setIfInBounds z true) a w → K' a w) → if Region.wanted o (yielded ops a.tmps) = true then Oper.wp P o a w K' Q else K' (a.put o.dst undef) w) : AllG P md ops Q S z fuel listed a w [z] := fun j hj => by
  obtain rfl := List.mem_singleton.1 hj
  exact wpOp_step ho (fun K' hK => h K' (fun a w hW => hK a w ⟨fun e => absurd e (by rw [set_self (Nat.le_of_ble_eq_true hl)]; simp), hW⟩))
/-- One that comes behind z. -/
theorem AllG.behind {fuel : Nat} {listed : Array Bool} {a : Act} {w : World} {i : Nat} {o : Oper} {rs : List Nat} (ho : ops[i]? = some o) (hz : listed.getD z false = true)
    (h : ∀ K' : Act → World → Prop, Shut (∀ a w, anyG P md ops Q S z fuel (listed.setIfInBounds i true) a w → K' a w) → if Region.wanted o (yielded ops a.tmps) = true then Oper.wp P o a w K' Q else K' (a.put o.dst undef) w)
    (hs : AllG P md ops Q S z fuel listed a w rs) : AllG P md ops Q S z fuel listed a w (i :: rs) := fun j hj => by
  rcases List.mem_cons.1 hj with rfl | hj
  · exact wpOp_step ho (fun K' hK => h K' (fun a w hW => hK a w ⟨fun e => absurd e (by rw [getD_set_true hz]; simp), hW⟩))
  · exact hs j hj
theorem anyG_ready {rs : List Nat} {fuel : Nat} {listed : Array Bool} {a : Act} {w : World} (hr : Region.ready md ops listed = rs) (hne : rs ≠ [])
    (h : AllG P md ops Q S z fuel listed a w rs) : anyG P md ops Q S z (fuel + 1) listed a w := fun _ => ⟨fun h0 => absurd (hr ▸ h0) hne, hr ▸ h⟩
theorem anyG_done {listed : Array Bool} {a : Act} {w : World} (hr : Region.ready md ops listed = []) (h : Q .normal a w) : ∀ fuel, anyG P md ops Q S z fuel listed a w
  | 0 => ⟨hr, h⟩
  | _ + 1 => fun _ => ⟨fun _ => h, by rw [hr]; simp⟩
/-- The beginning. -/
theorem region_G {id : Nat} {a : Act} {w : World} (hm : P.follows .mixedOrders = true) (z : Nat) (S : World → Prop) (hS : S w.drew)
    (h : S w.drew → anyG P .any ops Q S z ops.size (Array.replicate ops.size false) a w.drew) : (Code.region id ops true).wp P Q a w :=
  wp_region_any hm (any_of_G _ _ _ _ (Clo.start _) (h hS))
end
/-! Frames of many slots: those that matter are written out, the others are 'u i'. -/
section
variable {P : Program} {Q : Exit → Act → World → Prop}
theorem meetU {K : Act → World → Prop} {T : Array Value} {W : World} (F : (Nat → Value) → Array Value) (h : ∀ u, K ⟨F u, []⟩ W) (e : F (fun i => T.getD i undef) = T) : K ⟨T, []⟩ W := by
  rw [← e]; exact h _
theorem cutU {s : Code} {K : Act → World → Prop} {Q' : Exit → Act → World → Prop} {a : Act} {w : World} {β : Type} (F : β → (Nat → Value) → Array Value) (R : β → World → Prop)
    (rest : ∀ b u w', R b w' → K ⟨F b u, []⟩ w')
    (first : ∀ K' : Act → World → Prop, Shut (∀ b u w', R b w' → K' ⟨F b u, []⟩ w') → s.wp P (Exit.then K' Q') a w) : s.wp P (Exit.then K Q') a w := first K rest
theorem loopU {c : Code} {T : Array Value} {w : World} {β : Type} (F : β → (Nat → Value) → Array Value) (R : β → World → Prop) (μ : β → Nat) (b0 : β) (h0 : R b0 w) (e0 : F b0 (fun i => T.getD i undef) = T)
    (round : ∀ b u w, R b w → ∀ K : Act → World → Prop, Shut (∀ b' u' w', μ b' < μ b → R b' w' → K ⟨F b' u', []⟩ w') → c.wp P (Exit.then K Q) ⟨F b u, []⟩ w) : (Code.loop c).wp P Q ⟨T, []⟩ w := by
  refine wp_loop_ghost (fun n a w => ∃ b u, n = μ b ∧ a = ⟨F b u, []⟩ ∧ R b w) (μ b0) ⟨b0, _, rfl, by rw [e0], h0⟩ ?_
  rintro n a w ⟨b, u, rfl, rfl, hR⟩
  exact round b u w hR _ (fun b' u' w' hlt hR' => ⟨μ b', hlt, b', u', rfl, rfl, hR'⟩)
end
end Go.Proofs.YtcpmcfagibmboabGreat.Rg

namespace Go.Proofs.YtcpmcfagibmboabGreat.Rr
open Go
set_option linter.unusedVariables false

def noDefer (ops : Array Oper) : Bool := ops.all fun o => match o.op with | .defer _ => false | _ => true
theorem noDefer_at {ops : Array Oper} (h : noDefer ops = true) {i : Nat} {o : Oper} (ho : ops[i]? = some o) : ∀ c, o.op ≠ .defer c := fun c e => by
  have hi := Array.getElem?_eq_some_iff.1 ho
  have h1 := (Array.all_eq_true.1 h) i hi.1
  rw [hi.2, e] at h1
  cases h1
theorem op_up {n : Nat} {P : Program} {o : Oper} {a : Act} {w : World} {K : Act → World → Prop} {Q : Exit → Act → World → Prop} (h : o.wp P a w K Q) : o.wpIn Fence.wide n P a w K Q := by
  refine ⟨fun _ _ => trivial, ?_⟩
  show o.uponIn Fence.wide n P a K Q ((o.semAt none a.eval).run P w)
  rw [Oper.semAt_none]
  unfold Oper.wp at h
  generalize (execOp a.eval o).run P w = r at *
  cases r with
  | ok x w' =>
    cases x <;> simp only [Oper.upon, Oper.uponIn] at h ⊢
    case value => exact h
    case skip => exact h
    case defer => exact h
    case enter f args => exact ⟨(fun e => by cases e), (callsIn_wide.2 h).mono (fun e w2 he => by cases e <;> exact he)⟩
    case row r args => exact ⟨(fun e => by cases e), fun c cs _ => by obtain ⟨v, w2, q, s⟩ := h c cs; exact ⟨v, w2, q, stepsIn_wide.2 s⟩⟩
  | halt x w' => cases x <;> simp only [Oper.upon, Oper.uponIn] at h ⊢ <;> exact h
theorem op_round {n : Nat} {P : Program} {o : Oper} {a : Act} {w : World} {K : Act → World → Prop} {Q : Exit → Act → World → Prop} (l : Nat) (hd : ∀ c, o.op ≠ .defer c) (h : Oper.wpIn Fence.wide n P o a w K Q) : Oper.wpIn (Fence.wide.inRound l) n P o a w K Q := by
  refine ⟨h.1, ?_⟩
  have h2 := h.2
  rw [Oper.semAt_eq _ _ _ hd] at h2 ⊢
  exact h2
theorem any_round {n : Nat} {P : Program} {md : Region.Mode} {ops : Array Oper} {Q : Exit → Act → World → Prop} (l : Nat) (hd : noDefer ops = true) (hL : ¬ LetsOut Q) : ∀ (fuel : Nat) (listed : Array Bool) (a : Act) (w : World), wpAny P md ops Q fuel listed a w → wpAnyIn (Fence.wide.inRound l) n P md ops Q fuel listed a w
  | 0, _, _, _, h => h
  | fuel + 1, listed, a, w, h => by
    refine ⟨h.1, fun i hi => ?_⟩
    have h2 := h.2 i hi
    unfold wpOpIn
    unfold wpOp at h2
    cases ho : ops[i]? with
    | none =>
      simp only [ho] at h2 ⊢
      exact any_round l hd hL fuel _ a w h2
    | some o =>
      simp only [ho] at h2 ⊢
      split
      · rename_i hw
        rw [if_pos hw] at h2
        exact Oper.wpIn_mono (fun a' w' h' => any_round l hd hL fuel _ a' w' h') (op_round l (noDefer_at hd ho) (op_up (h2.resolve_right (fun x => hL x.2))))
      · rename_i hw
        rw [if_neg hw] at h2
        exact ⟨fun _ _ => trivial, any_round l hd hL fuel _ _ _ h2⟩
/-- The beginning. -/
theorem round_G {n : Nat} {P : Program} {id : Nat} {ops : Array Oper} {Q : Exit → Act → World → Prop} {a : Act} {w : World} (l : Nat) (hm : P.follows .mixedOrders = true) (hd : noDefer ops = true) (hL : ¬ LetsOut Q) (z : Nat) (S : World → Prop) (hS : S w.drew)
    (h : S w.drew → Rg.anyG P .any ops Q S z ops.size (Array.replicate ops.size false) a w.drew) : (Code.region id ops true).wpIn (Fence.wide.inRound l) n P Q a w :=
  wpIn_region_any hm (any_round l hd hL _ _ _ _ (Rg.any_of_G _ _ _ _ (Rg.Clo.start _) (h hS)))
end Go.Proofs.YtcpmcfagibmboabGreat.Rr

namespace Go.Proofs.YtcpmcfagibmboabGreat.Lf
open Go.RowKit Go.Shelf Pl Pw Pr Pf Pv Cp Ca Cb Cc Cd Ce Cf Gf Gk Ct Cu La Rd Ch Lb Li Lc
open Cr hiding some_of
open Kt hiding mkH
open Kv
set_option linter.unusedVariables false
set_option linter.unusedSimpArgs false
set_option maxRecDepth 20000
attribute [local go_sem] Oper.semAt_some

theorem box_own {A B : World} {row : Option Nat} {base : Nat} (hg : A.grownBy B row) (hr : ∀ r, row = some r → base ≤ r ∧ ∃ o : Obj, A.heap[r]? = some o ∧ o.isCells = false) {o : Nat} {cs : Array Value} {t : TypeId} (hb : Bx A o cs t) : Bx B o cs t :=
  (hg.block o hb.lt (fun e => by
    obtain ⟨-, o', ho, hc⟩ := hr o e.symm
    unfold Bx at hb
    rw [hb] at ho
    cases ho
    cases hc)).trans hb
theorem bel_own {A B w : World} {row : Option Nat} {base n : Nat} (hg : A.grownBy B row) (hr : ∀ r, row = some r → base ≤ r ∧ ∃ o : Obj, A.heap[r]? = some o ∧ o.isCells = false) (hn : n ≤ base) (hnA : n ≤ A.heap.size) (hb : Below n w A) : Below n w B :=
  ⟨hg.os.trans hb.os, hg.tape.trans hb.tape, hg.output.trans hb.output, Nat.le_trans hb.size hg.size, fun k hk => (hg.block k (by omega) (fun e => by have := (hr k e.symm).1; omega)).trans (hb.block k hk)⟩
theorem res_cc {fn : Func} {p q : Tmp} {t u : TypeId} (h : fn.results = #[.cell p t, .cell q u]) (tmps : Array Value) (P : Program) (w : World) {b c : Addr} {x y : Value}
    (hp : tmps.getD p undef = .pointer (some b)) (hq : tmps.getD q undef = .pointer (some c)) (hx : (loadVar t b).run P w = .ok x w) (hy : (loadVar u c).run P w = .ok y w) :
    (results fn tmps).run P w = .ok (.tuple #[x, y]) w := by
  have hp' : tmps[p]?.getD undef = .pointer (some b) := by simpa using hp
  have hq' : tmps[q]?.getD undef = .pointer (some c) := by simpa using hq
  simp only [results, h]
  simp [Sem.run_bind, Result.andThen, hp', hq', asAddr, hx, hy]
theorem fin_set {w W : World} {x y z : Value} (h1 : Bx W w.heap.size #[x, y] 51) (h2 : Bx W (w.heap.size + 1) #[z] 24) (hb : Below w.heap.size w W) (u v t : Value) :
    Bx (((W.setCell ⟨w.heap.size, 0, none⟩ u).setCell ⟨w.heap.size, 1, none⟩ v).setCell ⟨w.heap.size + 1, 0, none⟩ t) w.heap.size #[u, v] 51 ∧ Bx (((W.setCell ⟨w.heap.size, 0, none⟩ u).setCell ⟨w.heap.size, 1, none⟩ v).setCell ⟨w.heap.size + 1, 0, none⟩ t) (w.heap.size + 1) #[t] 24 ∧
    Below w.heap.size w (((W.setCell ⟨w.heap.size, 0, none⟩ u).setCell ⟨w.heap.size, 1, none⟩ v).setCell ⟨w.heap.size + 1, 0, none⟩ t) ∧ Fr (fun q => q = w.heap.size ∨ q = w.heap.size + 1) W (((W.setCell ⟨w.heap.size, 0, none⟩ u).setCell ⟨w.heap.size, 1, none⟩ v).setCell ⟨w.heap.size + 1, 0, none⟩ t) := by
  have a1 := h1.set 0 u
  have a2 := a1.set 1 v
  have b1 := h2.other (p := ⟨w.heap.size, 0, none⟩) (by simp) u
  have b2 := b1.other (p := ⟨w.heap.size, 1, none⟩) (by simp) v
  refine ⟨a2.other (p := ⟨w.heap.size + 1, 0, none⟩) (by simp) t, b2.set 0 t, ((hb.setCell (Nat.le_refl _) _).setCell (Nat.le_refl _) _).setCell (Nat.le_succ _) _, ?_⟩
  exact ((h1.frset 0 u).mono (fun q hq => .inl hq)).trans (((a1.frset 1 v).mono (fun q hq => .inl hq)).trans ((b2.frset 0 t).mono (fun q hq => .inr hq)) (fun i hi => .inl hi)) (fun i hi => .inl hi)
/-- The chart while the threes are told. -/
def LI (cb N : Nat) (e0 : Int) (R : List Int) (wA : World) (m k : Nat) (W : World) : Prop :=
  ∃ ao cap, 3 * k ≤ N - 2 ∧ Bx W cb #[.int .i64 e0, .slice ao k cap] 51 ∧ W.ownsRow m 87 3 (.slice ao k cap) k (Fp (Ld.pcs (R.take (3 * k)))) ∧ Below cb wA W
theorem LI_own (cb N : Nat) (e0 : Int) (R : List Int) (wA : World) (B m : Nat) (hB : cb ≤ B) : OwnFrom B (LI cb N e0 R wA m) := by
  rintro k W W' row ⟨ao, cap, h0, h1, h2, h3⟩ hg hr
  refine ⟨ao, cap, h0, box_own hg hr h1, ⟨h2.1, ?_⟩, bel_own hg hr hB (Nat.le_of_lt h1.lt) h3⟩
  rcases h2.2 with e | ⟨g, c, cur, e1, e2, e3, e4⟩
  · exact .inl e
  · exact .inr ⟨g, c, cur, e1, e2, box_own hg hr e3, e4⟩
/-- A three that is short: the answer is in the results' boxes. -/
def LZ (w : World) (N : Nat) (m k : Nat) (W : World) : Prop :=
  Bx W w.heap.size #[.int .i64 0, .slice none 0 0] 51 ∧ Bx W (w.heap.size + 1) #[.int .i64 5] 24 ∧ Below w.heap.size w W ∧ (N - 2) % 3 ≠ 0
theorem LZ_own (w : World) (N B m : Nat) (hB : w.heap.size ≤ B) : OwnFrom B (LZ w N m) := by
  rintro k W W' row ⟨h1, h2, h3, h4⟩ hg hr
  exact ⟨box_own hg hr h1, box_own hg hr h2, bel_own hg hr hB (Nat.le_of_lt h1.lt) h3, h4⟩

/-- The results' boxes, and the answer's row. -/
def LG (w : World) (u v t : Value) (ao : Option Addr) (n cap : Nat) (F : List Value) (_ : Unit) (W : World) : Prop :=
  Bx W w.heap.size #[u, v] 51 ∧ Bx W (w.heap.size + 1) #[t] 24 ∧ Below w.heap.size w W ∧ W.ownsRow w.heap.size 87 3 (.slice ao n cap) n F
theorem LG_own (w : World) (u v t : Value) (ao : Option Addr) (n cap : Nat) (F : List Value) (B : Nat) (hB : w.heap.size ≤ B) : OwnFrom B (LG w u v t ao n cap F) := by
  rintro k W W' row ⟨h1, h2, h3, h4⟩ hg hr
  refine ⟨box_own hg hr h1, box_own hg hr h2, bel_own hg hr hB (Nat.le_of_lt h1.lt) h3, ⟨h4.1, ?_⟩⟩
  rcases h4.2 with e | ⟨g, c, cur, e1, e2, e3, e4⟩
  · exact .inl e
  · exact .inr ⟨g, c, cur, e1, e2, box_own hg hr e3, e4⟩

theorem own_blk {w : World} {base e size n cap : Nat} {ao : Option Addr} {xs : List Value} (h : w.ownsRow base e size (.slice ao n cap) n xs) : ∀ r, (Value.slice ao n cap).ownBlock = some r → base ≤ r := fun r hr => (h.lt r hr).1
/-- 'c.Pieces = append(c.Pieces, ..)'. -/
theorem app_step {cb m j : Nat} {ev : Value} {Wb W2 w0 : World} {ao : Option Addr} {cap : Nat} {v2 : Value} {F F2 : List Value} {o : Obj} (hown : Wb.ownsRow m 87 3 (.slice ao j cap) j F) (hbx : Bx Wb cb #[ev, .slice ao j cap] 51) (hlc : cb < m) (hm : m ≤ Wb.heap.size)
    (hown2 : W2.ownsRow m 87 3 v2 (j + 1) F2) (hgr : (Wb.alloc o).drew.grownBy W2 (Value.slice ao j cap).ownBlock) (hb : Below cb w0 Wb) :
    ∃ a2 c2, v2 = .slice a2 (j + 1) c2 ∧ Bx W2 cb #[ev, .slice ao j cap] 51 ∧ Fm m (fun k => k = cb) Wb (W2.setCell ⟨cb, 1, none⟩ v2) ∧ Bx (W2.setCell ⟨cb, 1, none⟩ v2) cb #[ev, v2] 51 ∧ (W2.setCell ⟨cb, 1, none⟩ v2).ownsRow m 87 3 v2 (j + 1) F2 ∧ Below cb w0 (W2.setCell ⟨cb, 1, none⟩ v2) := by
  obtain ⟨a2, c2, rfl⟩ := own_form hown2
  have hsz : (Wb.alloc o).drew.heap.size = Wb.heap.size + 1 := by simp
  have hblk : ∀ b, b < m → b < Wb.heap.size → W2.heap[b]? = Wb.heap[b]? := fun b h1 h2 =>
    (hgr.block b (by omega) (fun e => by have := own_blk hown b e.symm; omega)).trans (show (Wb.alloc o).drew.heap[b]? = Wb.heap[b]? from Below.heap_alloc Wb o b h2)
  have hbx2 : Bx W2 cb #[ev, .slice ao j cap] 51 := (hblk cb hlc hbx.lt).trans hbx
  have hsz2 : Wb.heap.size ≤ W2.heap.size := by have := hgr.size; omega
  have hst : Fr (fun k => k = cb) W2 (W2.setCell ⟨cb, 1, none⟩ (.slice a2 (j + 1) c2)) := hbx2.frset 1 _
  refine ⟨a2, c2, rfl, hbx2, ⟨hgr.os, hgr.tape, hgr.output, by simpa using hsz2, fun b h1 h2 h3 => ?_⟩, hbx2.set 1 _, own_fr hown2 hst (fun k hk e => by have := own_blk hown2 k hk; omega), ⟨hgr.os.trans hb.os, hgr.tape.trans hb.tape, hgr.output.trans hb.output, by have := hb.size; simp; omega, fun b h1 => ?_⟩⟩
  · rw [heap_setCell_other W2 ⟨cb, 1, none⟩ b _ (fun e => h3 (by simpa using e))]
    exact hblk b h1 h2
  · rw [heap_setCell_other W2 ⟨cb, 1, none⟩ b _ (by simp; omega), hblk b (by omega) (by have := hbx.lt; omega)]
    exact hb.block b h1

set_option maxRecDepth 100000 in
set_option maxHeartbeats 8000000 in
theorem load_any (w : World) (bs : List UInt8) (hl : bs.length ≤ 1000) :
    Calls Tryz.prog 28 #[.string (S bs)] w fun e w' => Ld.LdP w bs e w' := by
  have hmx : Tryz.prog.follows .mixedOrders = true := by kernel_rfl
  obtain ⟨V2, hV2⟩ : ∃ V2, V2 = (w.alloc (.cells #[.int .i64 0, .slice none 0 0] 51)).alloc (.cells #[.int .i64 0] 24) := ⟨_, rfl⟩
  have hr2 : Bx V2 w.heap.size #[.int .i64 0, .slice none 0 0] 51 := by rw [hV2]; exact (Bx.new w _ _).alloc _
  have he2 : Bx V2 (w.heap.size + 1) #[.int .i64 0] 24 := by rw [hV2]; exact Bx.new1 w _ _ _
  have hb2 : Below w.heap.size w V2 := by rw [hV2]; exact ((Below.refl _ w).alloc (Nat.le_refl _) _).alloc (by simp) _
  have hz2 : V2.heap.size = w.heap.size + 2 := by rw [hV2]; simp
  have HNO := mkH (numsOf_any V2 bs hl)
  have HR2 := mkH hr2
  have HE2 := mkH he2
  have HB2 := mkH hb2
  have HZ2 := mkH hz2
  have HV2 := mkH hV2
  clear hr2 he2 hb2 hz2 hV2
  refine (callsIn_wide (n := 12)).1 ?_
  refine callsIn_of_wp_marks Tryz.func28 rfl trivial ?_ rfl
  simp only [Tryz.ntmps28, List.size_toArray, List.length_cons, List.length_nil, Nat.reduceAdd, Nat.reduceSub, Array.replicate_succ, Array.replicate_zero, List.push_toArray, List.append_toArray, List.nil_append, List.cons_append]
  gi_wp2_with fail
  rw [show (w.alloc (.cells #[.int .i64 0, .slice none 0 0] 51)).alloc (.cells #[.int .i64 0] 24) = V2 from HV2.out.symm]
  refine ⟨trivial, (callsIn_wide.2 HNO.out).mono ?_⟩
  rintro e wA ⟨hbA, hans⟩
  have HRA := mkH (HR2.out.bel hbA)
  have HEA := mkH (HE2.out.bel hbA)
  have HBA := mkH (HB2.out.trans (hbA.mono HB2.out.size))
  have hzA : w.heap.size + 2 ≤ wA.heap.size := by have := hbA.size; have := HZ2.out; omega
  clear hbA HR2 HE2 HB2 HZ2 HV2 HNO
  rcases hans with ⟨L, aN, cN, hN, rfl, hown⟩ | ⟨hno, rfl⟩
  · have HN := mkH hN
    have HO := mkH hown
    clear hN hown
    by_cases hs2 : L.length < 2
    · have HBAD : Hid (¬ ∃ e ps, Ld.Good bs e ps) := mkH (Ld.bad_len hl HN.out (.inl hs2))
      have g1 : (L.length : Int) < 2 := by omega
      clear hs2
      obtain ⟨f1, f2, f3, -⟩ := fin_set HRA.out HEA.out HBA.out (.int .i64 0) (.slice none 0 0) (.int .i64 5)
      obtain ⟨x0, x1, x2, x3⟩ := two_load (P := Tryz.prog) HRA.out
      have x4 : wA.cell? ⟨w.heap.size + 1, 0, none⟩ = some (.int .i64 0) := HEA.out.cell 0 _ rfl
      have x5 := HEA.out.frozen 0
      obtain ⟨y0, y1, -, -⟩ := two_load (P := Tryz.prog) f1
      have y2 := f2.cell 0 _ rfl
      have HF3 := mkH f3
      clear f1 f2 f3
      gi_wp2
      exact ⟨.tuple #[.agg #[.int .i64 0, .slice none 0 0], .int .i64 5], res_cc rfl _ _ _ (b := ⟨w.heap.size, 0, none⟩) (c := ⟨w.heap.size + 1, 0, none⟩) (x := .agg #[.int .i64 0, .slice none 0 0]) (y := .int .i64 5) (by rfl) (by rfl) (by simp [loadVar, go_sem, y0, y1]) (by simp [loadVar, go_sem, y2]), HF3.out, .inr ⟨HBAD.out, rfl⟩⟩
    · obtain ⟨e0, kk, R, hLR⟩ : ∃ e0 kk R, L = e0 :: kk :: R := by
        match L, hs2 with
        | [], h => simp at h
        | [_], h => simp at h
        | x :: y :: r, _ => exact ⟨x, y, r, rfl⟩
      have hRL : L.length ≤ R.length + 2 := by rw [hLR]; simp
      have hRM : R.length + 2 ≤ L.length := by rw [hLR]; simp
      have hL1 : L.length ≤ 1000 := by have h1 := txt_ge L; rw [HN.out.1] at h1; omega
      have g1 : ¬ (L.length : Int) < 2 := by omega
      have hri := (RowI.own HO.out).2
      have hcN := own_le HO.out
      have hcM := own_cap HO.out
      obtain ⟨b, off, rfl, hcl⟩ := hri (by omega)
      have hb0 := hcl 0 (by omega)
      have e00 : L.getD 0 0 = e0 := by rw [hLR]; rfl
      rw [e00] at hb0
      have hblt : b < wA.heap.size := World.block_lt_of_cell? wA _ hb0
      obtain ⟨N, hN⟩ : ∃ N, N = L.length := ⟨_, rfl⟩
      have HNL := mkH hN
      have HLR := mkH hLR
      have HCL := mkH hcl
      rw [← hN] at hRL hRM g1 hL1 hs2 hcN ⊢
      clear hcl hri hLR hN e00
      have gi : (0 : Int) < (N : Int) := by omega
      have gj : (2 : Int) ≤ (N : Int) := by omega
      simp only [Nat.add_zero] at hb0
      obtain ⟨WC, hWC⟩ : ∃ WC, WC = wA.alloc (.cells #[.int .i64 e0, .slice none 0 0] 51) := ⟨_, rfl⟩
      have hbC : Below wA.heap.size wA WC := by rw [hWC]; exact (Below.refl _ wA).alloc (Nat.le_refl _) _
      have hzC : WC.heap.size = wA.heap.size + 1 := by rw [hWC]; simp
      have hxC : Bx WC wA.heap.size #[.int .i64 e0, .slice none 0 0] 51 := by rw [hWC]; exact Bx.new _ _ _
      by_cases hc2 : cN = 2
      · obtain rfl : N = 2 := by omega
        subst hc2
        obtain ⟨W0, hW0⟩ : ∃ W0, W0 = (WC.alloc (.cells #[.slice (some ⟨b, off, none⟩) (0) (0)] 74)).alloc (.cells #[.int .i64 3] 3) := ⟨_, rfl⟩
        have hb0' : Below WC.heap.size WC W0 := by rw [hW0]; exact ((Below.refl _ WC).alloc (Nat.le_refl _) _).alloc (by simp) _
        have hz0 : W0.heap.size = wA.heap.size + 3 := by rw [hW0]; simp; omega
        have hs0 : Bx W0 (wA.heap.size + 1) #[.slice (some ⟨b, off, none⟩) (0) (0)] 74 := by rw [hW0, ← hzC]; exact (Bx.new WC _ _).alloc _
        have hn0 : Bx W0 (wA.heap.size + 2) #[.int .i64 3] 3 := by
          have hh : WC.heap.size + 1 = wA.heap.size + 2 := by omega
          rw [hW0, ← hh]; exact Bx.new1 WC _ _ _
        have hx0 := hxC.bel hb0'
        have hbel0 : Below wA.heap.size wA W0 := hbC.trans (hb0'.mono (by omega))
        have hseq := chunk_seq 11 (by omega) (fun q => q = wA.heap.size ∨ q = w.heap.size ∨ q = w.heap.size + 1) (wA.heap.size + 1) (wA.heap.size + 2) (b := b) (off := off) (m := 0) hs0 hn0 (by omega) (by omega) (by omega) (by omega) (by omega) (fun _ => rfl)
        have HX0 := mkH hx0
        have HBL := mkH hbel0
        have HZ0 := mkH hz0
        have HWC := mkH hWC
        have HW0 := mkH hW0
        have hzz : WC.heap.size = wA.heap.size + 1 := hzC
        clear hs0 hn0 hx0 hbel0 hz0 hbC hxC hb0' hWC hW0
        gi_wp2_with fail
        rw [show wA.alloc (.cells #[.int .i64 e0, .slice none 0 0] 51) = WC from HWC.out.symm]
        refine ⟨trivial, (callsIn_wide.2 (chunk_any _ _ _ _)).mono ?_⟩
        rintro e w1 ⟨rfl, rfl⟩
        rw [hzC]
        gi_wp2_with fail
        rw [show (WC.alloc (.cells #[.slice (some ⟨b, off, none⟩) (0) (0)] 74)).alloc (.cells #[.int .i64 3] 3) = W0 from HW0.out.symm]
        clear hzC
        refine rfZ (by omega) (gf := 81) (lb := #[.pointer (some ⟨wA.heap.size + 1, 0, none⟩), .pointer (some ⟨wA.heap.size + 2, 0, none⟩)]) rfl (enters_of Tryz.func81 (by kernel_rfl) rfl) hseq (Below.refl _ _) (fun q hq => by have := HZ0.out; omega) (fun _ => rfl)
          (LI wA.heap.size 2 e0 R wA) (LZ w 2) (fun m => LI_own _ _ _ _ _ _ m (by have := HZ0.out; omega)) (fun m => LZ_own _ _ _ m (by have := HZ0.out; omega))
          (fun m hm => ⟨none, 0, by omega, HX0.out, World.ownsRow_nil _ _ _ _, HBL.out⟩)
          (fun x a' W => a' = { tmps := #[.string (S bs), undef, .pointer (some ⟨w.heap.size, 0, none⟩), .pointer (some ⟨w.heap.size + 1, 0, none⟩), .slice (some ⟨b, off, none⟩) 2 2, .bool true, .pointer (some ⟨wA.heap.size, 0, none⟩), (.slice (some ⟨b, off + 3 * x, none⟩) 0 0), .tuple #[.slice (some ⟨b, off, none⟩) 2 2, .bool true], .string (S bs), .tuple #[.slice (some ⟨b, off, none⟩) 2 2, .bool true], .slice (some ⟨b, off, none⟩) 2 2, .bool true, .bool true, .bool false, .bool false, .slice (some ⟨b, off, none⟩) 2 2, .int .i64 (2 : Int), .bool (decide ((2 : Int) < 2)), .bool (decide ((2 : Int) < 2)), undef, .slice (some ⟨b, off, none⟩) 2 2, .pointer (some ⟨b, off, none⟩), .int .i64 e0, .agg #[.int .i64 e0, .slice none 0 0], .slice (some ⟨b, off, none⟩) 2 2, .slice (some ⟨b, off, none⟩) (0) (0), .func (.func 81) #[] #[.pointer (some ⟨wA.heap.size + 1, 0, none⟩), .pointer (some ⟨wA.heap.size + 1 + 1, 0, none⟩)], (.slice (some ⟨b, off + 3 * x, none⟩) 0 0), undef, undef, undef, undef, undef, undef, undef, undef, undef, undef, undef, undef, undef, undef, undef, undef, undef, undef, undef, undef, undef, undef, undef, undef, undef, undef, undef, undef, undef, undef, undef, undef, undef, undef], defers := [] })
          (fun x a' => ?hA) ?assign ?body ?done ?stop
        case hA =>
          rintro - W W' row e hg hr
          exact e
        case assign =>
          rintro l' x W' K hK
          have HK := mkH hK
          clear hK
          simp only [arC]
          gi_wp2
          exact HK.out _ _ (Below.refl _ _) rfl
        case body =>
          rintro l' m k x a' Wb hl1 hm hmW ⟨ao, cap, z0, z1, z2, z3⟩ rfl hx
          obtain ⟨hk, rfl⟩ : k < (0 + 2) / 3 ∧ x = k := by
            have h1 := (List.getElem?_eq_some_iff.1 hx).1
            rw [List.length_range] at h1
            rw [List.getElem?_range h1] at hx
            exact ⟨h1, (Option.some.inj hx).symm⟩
          clear hx
          exfalso; omega
        case done =>
          rintro D m Wd hD hm ⟨ao, cap, z0, z1, z2, z3⟩ hdf
          rw [List.length_range] at z0 z1 z2
          obtain ⟨k, hk⟩ : ∃ k, k = (0 + 2) / 3 := ⟨_, rfl⟩
          rw [← hk] at z0 z1 z2
          have h3k : 3 * k = R.length := by omega
          obtain ⟨P, hP⟩ : ∃ P, P = Ld.pcs R := ⟨_, rfl⟩
          have hPl : P.length = k := by rw [hP, Ld.pcs_len]; omega
          rw [h3k, List.take_length, ← hP] at z2
          have hP1 : P.length ≤ 400 := by omega
          have hR3 : R.length % 3 = 0 := by omega
          obtain rfl : k = P.length := hPl.symm
          have HOP : Hid (OwP Wd w.heap.size ao cap P) := mkH ⟨own_mono z2 (by have := HZ0.out; omega)⟩
          have HNM : Hid (Nums bs (e0 :: kk :: R)) := mkH (by rw [← HLR.out]; exact HN.out)
          have HPE := mkH hP
          have HR3 := mkH hR3
          have hRd := HRA.out.below z3 (by omega)
          have hEd := HEA.out.below z3 (by omega)
          have HM : Hid (∀ W, Below Wd.heap.size Wd W → Calls Tryz.prog 46 #[.agg #[.int .i64 e0, .slice ao P.length cap]] W fun x w' => x = .returned (.bool (mayC e0 P)) ∧ Below W.heap.size W w') := mkH (fun W hb => may_any W e0 ao cap P (HOP.out.rd.below hb) (by omega))
          have n1 : Wd.cell? ⟨b, off + 1, none⟩ = some (.int .i64 kk) := by
            have h1 := (z3.cell (p := ⟨b, off + 1, none⟩) hblt).trans (HCL.out 1 (by have := HNL.out; omega))
            rw [HLR.out] at h1
            exact h1
          obtain ⟨c0, c1, -, -⟩ := two_load (P := Tryz.prog) z1
          have HX1 := mkH z1
          have HRd := mkH hRd
          have HEd := mkH hEd
          have HB3 : Hid (Below w.heap.size w Wd) := mkH (HBA.out.trans (z3.mono (by omega)))
          have HDF := mkH hdf
          have gk : (1 : Int) < (2 : Int) := by omega
          clear hk z0 z1 z2 z3 h3k hP hPl hRd hEd hdf hR3
          by_cases hkk : (P.length : Int) = kk
          · subst hkk
            gi_wp2_with fail
            refine wpIn_wide.2 ?_
            obtain ⟨mv, hmv⟩ : ∃ mv, mv = mayC e0 P := ⟨_, rfl⟩
            rw [← hmv] at HM
            have HMV := mkH hmv
            clear hmv
            go_region_held3 (fun W => W.cell? ⟨wA.heap.size, 0, none⟩ = some (.int .i64 e0) ∧ W.cell? ⟨wA.heap.size, 1, none⟩ = some (.slice ao P.length cap) ∧ W.cell? ⟨b, off + 1, none⟩ = some (.int .i64 (P.length : Int))) (first | go_keep | exact hkeep) (first
              | (go_at_call 46; refine (HM.out _ (by (repeat (first | exact Below.refl _ _ | refine Below.drew ?_ | refine Gf.below_drewN ?_ _)))).mono ?_; rintro z w7 ⟨rfl, hb7⟩; have hkeep : w7.cell? ⟨wA.heap.size, 0, none⟩ = some (.int .i64 e0) ∧ w7.cell? ⟨wA.heap.size, 1, none⟩ = some (.slice ao P.length cap) ∧ w7.cell? ⟨b, off + 1, none⟩ = some (.int .i64 (P.length : Int)) := ⟨(hb7.cell (World.block_lt_of_cell? _ _ (by simpa using c0))).trans (by simpa using c0), (hb7.cell (World.block_lt_of_cell? _ _ (by simpa using c1))).trans (by simpa using c1), (hb7.cell (World.block_lt_of_cell? _ _ (by simpa using n1))).trans (by simpa using n1)⟩))
            all_goals
              have hb8 : Below Wd.heap.size Wd w7 := ((Below.refl _ Wd).drew).trans (by simpa using hb7)
              have HR7 := mkH (HRd.out.bel hb8)
              have HE7 := mkH (HEd.out.bel hb8)
              have HX7 := mkH (HX1.out.bel hb8)
              have HO7 := mkH (HOP.out.below hb8)
              have HB7 := mkH (HB3.out.trans (hb8.mono HB3.out.size))
              have HD7 : Hid (w7.heap[D]? = some (.deferred (some []))) := mkH ((hb8.block D (Gf.block_lt HDF.out)).trans HDF.out)
              have hDn : D ≠ w.heap.size ∧ D ≠ w.heap.size + 1 := by have := HZ0.out; omega
              have hww : w.heap.size ≤ W0.heap.size := by have := HZ0.out; omega
              clear hb7 hb8 hkeep c0 c1 n1
              obtain ⟨c0, c1, -, -⟩ := two_load (P := Tryz.prog) HX7.out
              obtain ⟨x0, x1, x2, x3⟩ := two_load (P := Tryz.prog) HR7.out
              have x4 : w7.cell? ⟨w.heap.size + 1, 0, none⟩ = some (.int .i64 0) := HE7.out.cell 0 _ rfl
              have x5 := HE7.out.frozen 0
              cases mv with
              | false =>
                obtain ⟨f1, f2, f3, f4⟩ := fin_set HR7.out HE7.out HB7.out (.int .i64 0) (.slice none 0 0) (.int .i64 5)
                have hd9 := (f4.heap (Gf.block_lt HD7.out) (fun hq => by rcases hq with h | h; exact hDn.1 h; exact hDn.2 h)).trans HD7.out
                obtain ⟨g1, g2, g3, -⟩ := (LG_own w (.int .i64 0) (.slice none 0 0) (.int .i64 5) none 0 0 [] W0.heap.size hww).putObj (s := ()) (.deferred none) ⟨f1, f2, f3, World.ownsRow_nil _ _ _ _⟩ hD hd9 rfl
                obtain ⟨y0, y1, -, -⟩ := two_load (P := Tryz.prog) g1
                have y2 := g2.cell 0 _ rfl
                have HF3 := mkH g3
                have HD9 := mkH hd9
                have HBAD : Hid (¬ ∃ e ps, Ld.Good bs e ps) := mkH (Ld.bad_eq hl HNM.out (.inr (by rw [← HPE.out]; exact HMV.out.symm)))
                clear f1 f2 f3 f4 g1 g2 g3 hd9
                go_wp2
                gi_wp2
                refine ⟨by simp, .inl ⟨_, _, rfl, run_takeDeferred HD9.out, ?_⟩⟩
                exact ⟨.tuple #[.agg #[.int .i64 0, .slice none 0 0], .int .i64 5], res_cc rfl _ _ _ (b := ⟨w.heap.size, 0, none⟩) (c := ⟨w.heap.size + 1, 0, none⟩) (x := .agg #[.int .i64 0, .slice none 0 0]) (y := .int .i64 5) (by rfl) (by rfl) (by simp [loadVar, go_sem, y0, y1]) (by simp [loadVar, go_sem, y2]), HF3.out, .inr ⟨HBAD.out, rfl⟩⟩
              | true =>
                obtain ⟨f1, f2, f3, f4⟩ := fin_set HR7.out HE7.out HB7.out (.int .i64 e0) (.slice ao P.length cap) (.int .i64 0)
                have hd9 := (f4.heap (Gf.block_lt HD7.out) (fun hq => by rcases hq with h | h; exact hDn.1 h; exact hDn.2 h)).trans HD7.out
                have ho9 := own_fr HO7.out.o f4 (fun k hk hq => by rcases hq with h | h; exact own_ne HO7.out.o HR7.out hk (by decide) h; exact own_ne HO7.out.o HE7.out hk (by decide) h)
                obtain ⟨g1, g2, g3, g4⟩ := (LG_own w (.int .i64 e0) (.slice ao P.length cap) (.int .i64 0) ao P.length cap (Fp P) W0.heap.size hww).putObj (s := ()) (.deferred none) ⟨f1, f2, f3, ho9⟩ hD hd9 rfl
                obtain ⟨y0, y1, -, -⟩ := two_load (P := Tryz.prog) g1
                have y2 := g2.cell 0 _ rfl
                have HF3 := mkH g3
                have HF4 := mkH (OwP.mk g4).rd
                have HD9 := mkH hd9
                have HG : Hid (Ld.Good bs e0 P) := mkH (by
                  have := Ld.good_of (e := e0) (R := R) (by rw [← HPE.out]; exact HNM.out) HR3.out (by rw [← HPE.out]; exact HMV.out.symm)
                  rwa [← HPE.out] at this)
                clear f1 f2 f3 f4 g1 g2 g3 g4 ho9 hd9
                go_wp2
                gi_wp2
                refine ⟨by simp, .inl ⟨_, _, rfl, run_takeDeferred HD9.out, ?_⟩⟩
                exact ⟨.tuple #[.agg #[.int .i64 e0, .slice ao P.length cap], .int .i64 0], res_cc rfl _ _ _ (b := ⟨w.heap.size, 0, none⟩) (c := ⟨w.heap.size + 1, 0, none⟩) (x := .agg #[.int .i64 e0, .slice ao P.length cap]) (y := .int .i64 0) (by rfl) (by rfl) (by simp [loadVar, go_sem, y0, y1]) (by simp [loadVar, go_sem, y2]), HF3.out, .inl ⟨e0, P, ao, cap, HG.out, hP1, rfl, HF4.out⟩⟩
          · have hne : ((P.length : Int) != kk) = true := by simpa using hkk
            gi_wp2_with fail
            refine wpIn_wide.2 ?_
            go_quiet (fail)
            obtain ⟨w7, hw7⟩ : ∃ w7, w7 = Wd.drewN nq := ⟨_, rfl⟩
            rw [← hw7]
            have hb8 : Below Wd.heap.size Wd w7 := by rw [hw7]; exact below_drewN (Below.refl _ _) _
            have HR7 := mkH (HRd.out.bel hb8)
            have HE7 := mkH (HEd.out.bel hb8)
            have HB7 := mkH (HB3.out.trans (hb8.mono HB3.out.size))
            have HD7 : Hid (w7.heap[D]? = some (.deferred (some []))) := mkH ((hb8.block D (Gf.block_lt HDF.out)).trans HDF.out)
            have hDn : D ≠ w.heap.size ∧ D ≠ w.heap.size + 1 := by have := HZ0.out; omega
            have hww : w.heap.size ≤ W0.heap.size := by have := HZ0.out; omega
            have HBAD : Hid (¬ ∃ e ps, Ld.Good bs e ps) := mkH (Ld.bad_eq hl HNM.out (.inl (by rw [← HPE.out]; exact fun h => hkk h.symm)))
            clear hb8 c0 c1 n1 hw7 hkk
            obtain ⟨x0, x1, x2, x3⟩ := two_load (P := Tryz.prog) HR7.out
            have x4 : w7.cell? ⟨w.heap.size + 1, 0, none⟩ = some (.int .i64 0) := HE7.out.cell 0 _ rfl
            have x5 := HE7.out.frozen 0
            obtain ⟨f1, f2, f3, f4⟩ := fin_set HR7.out HE7.out HB7.out (.int .i64 0) (.slice none 0 0) (.int .i64 5)
            have hd9 := (f4.heap (Gf.block_lt HD7.out) (fun hq => by rcases hq with h | h; exact hDn.1 h; exact hDn.2 h)).trans HD7.out
            obtain ⟨g1, g2, g3, -⟩ := (LG_own w (.int .i64 0) (.slice none 0 0) (.int .i64 5) none 0 0 [] W0.heap.size hww).putObj (s := ()) (.deferred none) ⟨f1, f2, f3, World.ownsRow_nil _ _ _ _⟩ hD hd9 rfl
            obtain ⟨y0, y1, -, -⟩ := two_load (P := Tryz.prog) g1
            have y2 := g2.cell 0 _ rfl
            have HF3 := mkH g3
            have HD9 := mkH hd9
            clear f1 f2 f3 f4 g1 g2 g3 hd9
            go_wp2
            gi_wp2
            refine ⟨by simp, .inl ⟨_, _, rfl, run_takeDeferred HD9.out, ?_⟩⟩
            exact ⟨.tuple #[.agg #[.int .i64 0, .slice none 0 0], .int .i64 5], res_cc rfl _ _ _ (b := ⟨w.heap.size, 0, none⟩) (c := ⟨w.heap.size + 1, 0, none⟩) (x := .agg #[.int .i64 0, .slice none 0 0]) (y := .int .i64 5) (by rfl) (by rfl) (by simp [loadVar, go_sem, y0, y1]) (by simp [loadVar, go_sem, y2]), HF3.out, .inr ⟨HBAD.out, rfl⟩⟩
        case stop =>
          rintro D m k W' hD hm hk g1 hdf
          have HDF := mkH hdf
          have hg := (LZ_own w 2 W0.heap.size m (by have := HZ0.out; omega)).putObj (.deferred none) g1 hD hdf rfl
          obtain ⟨f1, f2, f3, f4⟩ := hg
          have HBAD : Hid (¬ ∃ e ps, Ld.Good bs e ps) := mkH (Ld.bad_len hl HN.out (.inr (by rw [← HNL.out]; exact f4)))
          obtain ⟨y0, y1, -, -⟩ := two_load (P := Tryz.prog) f1
          have y2 : (W'.putObj D (.deferred none)).cell? ⟨w.heap.size + 1, 0, none⟩ = some (.int .i64 5) := f2.cell 0 _ rfl
          have HF3 := mkH f3
          clear f1 f2 f3 f4 g1 hdf
          gi_wp2
          refine ⟨by simp, .inl ⟨_, _, rfl, run_takeDeferred HDF.out, ?_⟩⟩
          exact ⟨.tuple #[.agg #[.int .i64 0, .slice none 0 0], .int .i64 5], res_cc rfl _ _ _ (b := ⟨w.heap.size, 0, none⟩) (c := ⟨w.heap.size + 1, 0, none⟩) (x := .agg #[.int .i64 0, .slice none 0 0]) (y := .int .i64 5) (by rfl) (by rfl) (by simp [loadVar, go_sem, y0, y1]) (by simp [loadVar, go_sem, y2]), HF3.out, .inr ⟨HBAD.out, rfl⟩⟩
      · obtain ⟨W0, hW0⟩ : ∃ W0, W0 = (WC.alloc (.cells #[.slice (some ⟨b, off + 2, none⟩) (N - 2) (cN - 2)] 74)).alloc (.cells #[.int .i64 3] 3) := ⟨_, rfl⟩
        have hb0' : Below WC.heap.size WC W0 := by rw [hW0]; exact ((Below.refl _ WC).alloc (Nat.le_refl _) _).alloc (by simp) _
        have hz0 : W0.heap.size = wA.heap.size + 3 := by rw [hW0]; simp; omega
        have hs0 : Bx W0 (wA.heap.size + 1) #[.slice (some ⟨b, off + 2, none⟩) (N - 2) (cN - 2)] 74 := by rw [hW0, ← hzC]; exact (Bx.new WC _ _).alloc _
        have hn0 : Bx W0 (wA.heap.size + 2) #[.int .i64 3] 3 := by
          have hh : WC.heap.size + 1 = wA.heap.size + 2 := by omega
          rw [hW0, ← hh]; exact Bx.new1 WC _ _ _
        have hx0 := hxC.bel hb0'
        have hbel0 : Below wA.heap.size wA W0 := hbC.trans (hb0'.mono (by omega))
        have hseq := chunk_seq 11 (by omega) (fun q => q = wA.heap.size ∨ q = w.heap.size ∨ q = w.heap.size + 1) (wA.heap.size + 1) (wA.heap.size + 2) (b := b) (off := off + 2) (m := N - 2) hs0 hn0 (by omega) (by omega) (by omega) (by omega) (by omega) (fun _ => rfl)
        have HX0 := mkH hx0
        have HBL := mkH hbel0
        have HZ0 := mkH hz0
        have HWC := mkH hWC
        have HW0 := mkH hW0
        have hzz : WC.heap.size = wA.heap.size + 1 := hzC
        clear hs0 hn0 hx0 hbel0 hz0 hbC hxC hb0' hWC hW0
        gi_wp2_with fail
        rw [show wA.alloc (.cells #[.int .i64 e0, .slice none 0 0] 51) = WC from HWC.out.symm]
        refine ⟨trivial, (callsIn_wide.2 (chunk_any _ _ _ _)).mono ?_⟩
        rintro e w1 ⟨rfl, rfl⟩
        rw [hzC]
        gi_wp2_with fail
        rw [show (WC.alloc (.cells #[.slice (some ⟨b, off + 2, none⟩) (N - 2) (cN - 2)] 74)).alloc (.cells #[.int .i64 3] 3) = W0 from HW0.out.symm]
        clear hzC
        refine rfZ (by omega) (gf := 81) (lb := #[.pointer (some ⟨wA.heap.size + 1, 0, none⟩), .pointer (some ⟨wA.heap.size + 2, 0, none⟩)]) rfl (enters_of Tryz.func81 (by kernel_rfl) rfl) hseq (Below.refl _ _) (fun q hq => by have := HZ0.out; omega) (fun _ => rfl)
          (LI wA.heap.size N e0 R wA) (LZ w N) (fun m => LI_own _ _ _ _ _ _ m (by have := HZ0.out; omega)) (fun m => LZ_own _ _ _ m (by have := HZ0.out; omega))
          (fun m hm => ⟨none, 0, by omega, HX0.out, World.ownsRow_nil _ _ _ _, HBL.out⟩)
          (fun x a' W => a' = { tmps := #[.string (S bs), undef, .pointer (some ⟨w.heap.size, 0, none⟩), .pointer (some ⟨w.heap.size + 1, 0, none⟩), .slice (some ⟨b, off, none⟩) N cN, .bool true, .pointer (some ⟨wA.heap.size, 0, none⟩), (.slice (some ⟨b, off + 2 + 3 * x, none⟩) (min 3 (N - 2 - 3 * x)) (min 3 (N - 2 - 3 * x))), .tuple #[.slice (some ⟨b, off, none⟩) N cN, .bool true], .string (S bs), .tuple #[.slice (some ⟨b, off, none⟩) N cN, .bool true], .slice (some ⟨b, off, none⟩) N cN, .bool true, .bool true, .bool false, .bool false, .slice (some ⟨b, off, none⟩) N cN, .int .i64 (N : Int), .bool (decide ((N : Int) < 2)), .bool (decide ((N : Int) < 2)), undef, .slice (some ⟨b, off, none⟩) N cN, .pointer (some ⟨b, off, none⟩), .int .i64 e0, .agg #[.int .i64 e0, .slice none 0 0], .slice (some ⟨b, off, none⟩) N cN, .slice (some ⟨b, off + 2, none⟩) (N - 2) (cN - 2), .func (.func 81) #[] #[.pointer (some ⟨wA.heap.size + 1, 0, none⟩), .pointer (some ⟨wA.heap.size + 1 + 1, 0, none⟩)], (.slice (some ⟨b, off + 2 + 3 * x, none⟩) (min 3 (N - 2 - 3 * x)) (min 3 (N - 2 - 3 * x))), undef, undef, undef, undef, undef, undef, undef, undef, undef, undef, undef, undef, undef, undef, undef, undef, undef, undef, undef, undef, undef, undef, undef, undef, undef, undef, undef, undef, undef, undef, undef, undef, undef, undef], defers := [] })
          (fun x a' => ?hA) ?assign ?body ?done ?stop
        case hA =>
          rintro - W W' row e hg hr
          exact e
        case assign =>
          rintro l' x W' K hK
          have HK := mkH hK
          clear hK
          simp only [arC]
          gi_wp2
          exact HK.out _ _ (Below.refl _ _) rfl
        case body =>
          rintro l' m k x a' Wb hl1 hm hmW ⟨ao, cap, z0, z1, z2, z3⟩ rfl hx
          obtain ⟨hk, rfl⟩ : k < (N - 2 + 2) / 3 ∧ x = k := by
            have h1 := (List.getElem?_eq_some_iff.1 hx).1
            rw [List.length_range] at h1
            rw [List.getElem?_range h1] at hx
            exact ⟨h1, (Option.some.inj hx).symm⟩
          clear hx
          by_cases h3 : N - 2 < 3 * x + 3
          · obtain ⟨q, hq⟩ : ∃ q, q = min 3 (N - 2 - 3 * x) := ⟨_, rfl⟩
            rw [← hq]
            have hq3 : (q : Int) < 3 := by omega
            have hmod : (N - 2) % 3 ≠ 0 := by omega
            have hRb := HRA.out.below z3 (by omega)
            have hEb := HEA.out.below z3 (by omega)
            obtain ⟨f1, f2, f3, f4⟩ := fin_set hRb hEb (HBA.out.trans (z3.mono (by omega))) (.int .i64 0) (.slice none 0 0) (.int .i64 5)
            obtain ⟨x0, x1, x2, x3⟩ := two_load (P := Tryz.prog) hRb
            have x4 : Wb.cell? ⟨w.heap.size + 1, 0, none⟩ = some (.int .i64 0) := hEb.cell 0 _ rfl
            have x5 := hEb.frozen 0
            have HE := mkH (And.intro (Fm.ofFr (m := m) (f4.mono (G := fun q => q = wA.heap.size ∨ q = w.heap.size ∨ q = w.heap.size + 1) (fun q hq => .inr hq))) (show LZ w N m (x + 1) _ from ⟨f1, f2, f3, hmod⟩))
            clear f1 f2 f3 f4 hRb hEb hq h3 hmod z0 z1 z2 z3
            gi_wp2
            exact HE.out
          · have hq : min 3 (N - 2 - 3 * x) = 3 := by omega
            rw [hq]
            obtain ⟨a0, hq0⟩ : ∃ a0, R[3 * x]? = some a0 := ⟨_, List.getElem?_eq_getElem (by omega)⟩
            obtain ⟨a1, hq1⟩ : ∃ a1, R[3 * x + 1]? = some a1 := ⟨_, List.getElem?_eq_getElem (by omega)⟩
            obtain ⟨a2, hq2⟩ : ∃ a2, R[3 * x + 2]? = some a2 := ⟨_, List.getElem?_eq_getElem (by omega)⟩
            have hP := Ld.pcs_snoc x R a0 a1 a2 hq0 hq1 hq2
            obtain ⟨P0, hP0⟩ : ∃ P0, P0 = Ld.pcs (R.take (3 * x)) := ⟨_, rfl⟩
            rw [← hP0] at hP z2
            have HP := mkH hP
            have d0 : L.getD (2 + 3 * x) 0 = a0 := by rw [HLR.out, show 2 + 3 * x = 3 * x + 1 + 1 by omega]; simp [List.getD, hq0]
            have d1 : L.getD (2 + 3 * x + 1) 0 = a1 := by rw [HLR.out, show 2 + 3 * x + 1 = 3 * x + 1 + 1 + 1 by omega]; simp [List.getD, hq1]
            have d2 : L.getD (2 + 3 * x + 2) 0 = a2 := by rw [HLR.out, show 2 + 3 * x + 2 = 3 * x + 2 + 1 + 1 by omega]; simp [List.getD, hq2]
            have HCC : Hid (∀ W, Below wA.heap.size wA W → W.cell? ⟨b, off + 2 + 3 * x, none⟩ = some (.int .i64 a0) ∧ W.cell? ⟨b, off + 2 + 3 * x + 1, none⟩ = some (.int .i64 a1) ∧ W.cell? ⟨b, off + 2 + 3 * x + 2, none⟩ = some (.int .i64 a2)) := mkH (fun W hb => by
              have cc := fun i (hi : i < L.length) => (hb.cell (p := ⟨b, off + i, none⟩) hblt).trans (HCL.out i hi)
              have v0 := cc (2 + 3 * x) (by have := HNL.out; omega)
              have v1 := cc (2 + 3 * x + 1) (by have := HNL.out; omega)
              have v2 := cc (2 + 3 * x + 2) (by have := HNL.out; omega)
              rw [d0] at v0
              rw [d1] at v1
              rw [d2] at v2
              exact ⟨by rw [Nat.add_assoc]; exact v0, by rw [Nat.add_assoc, Nat.add_assoc]; exact v1, by rw [Nat.add_assoc, Nat.add_assoc]; exact v2⟩)
            have hx1000 : x ≤ 1000 := by omega
            obtain ⟨o3, ho3⟩ : ∃ o3, o3 = off + 2 + 3 * x := ⟨_, rfl⟩
            rw [← ho3] at HCC ⊢
            have HZ1 := mkH z1
            have HZ2 := mkH z2
            have HZ3 := mkH z3
            have HOK3 := mkH h3
            have HK := mkH hk
            clear hq hq0 hq1 hq2 hP hP0 d0 d1 d2 ho3 z0 z1 z2 z3 h3 hk
            obtain ⟨v0, v1, v2⟩ := HCC.out Wb HZ3.out
            obtain ⟨c0, c1, -, c3⟩ := two_load (P := Tryz.prog) HZ1.out
            have hcm : wA.heap.size < m := by have := HZ0.out; omega
            obtain ⟨V1, hV1⟩ : ∃ V1, V1 = Wb.drew := ⟨_, rfl⟩
            have hVs : V1.heap.size = Wb.heap.size := by rw [hV1]; simp
            have hbV : Below Wb.heap.size Wb V1 := by rw [hV1]; exact (Below.refl _ Wb).drew
            have hal : Below Wb.heap.size Wb (V1.alloc (.cells #[.int .i64 a0, .int .i64 a1, .int .i64 a2] 87)) := hbV.trans ((Below.refl _ V1).alloc (by omega) _)
            have HSR := mkH (newP V1 (a0, a1, a2) 87)
            have HLA := mkH (own_below HZ2.out hal)
            have HVS : Hid (m ≤ V1.heap.size) := mkH (by omega)
            have HQA := mkH (And.intro ((HZ1.out.bel hal).cell 1 _ rfl) (HCC.out _ (HZ3.out.trans (hal.mono HZ3.out.size))))
            have HAP : Hid (∀ v8 w8, w8.ownsRow m 87 3 v8 (x + 1) (Fp P0 ++ Fp [(a0, a1, a2)]) → (V1.alloc (.cells #[.int .i64 a0, .int .i64 a1, .int .i64 a2] 87)).grownBy w8 (Value.slice ao x cap).ownBlock → ∃ a2' c2, v8 = .slice a2' (x + 1) c2 ∧ Bx w8 wA.heap.size #[.int .i64 e0, .slice ao x cap] 51 ∧ Fm m (fun k => k = wA.heap.size) Wb (w8.setCell ⟨wA.heap.size, 1, none⟩ v8) ∧ Bx (w8.setCell ⟨wA.heap.size, 1, none⟩ v8) wA.heap.size #[.int .i64 e0, v8] 51 ∧ (w8.setCell ⟨wA.heap.size, 1, none⟩ v8).ownsRow m 87 3 v8 (x + 1) (Fp P0 ++ Fp [(a0, a1, a2)]) ∧ Below wA.heap.size wA (w8.setCell ⟨wA.heap.size, 1, none⟩ v8)) := mkH (by
              intro v8 w8 h1 h2
              subst hV1
              exact app_step HZ2.out HZ1.out hcm hmW h1 h2 HZ3.out)
            have HQ8 : Hid (∀ w8, Bx w8 wA.heap.size #[.int .i64 e0, .slice ao x cap] 51 → (V1.alloc (.cells #[.int .i64 a0, .int .i64 a1, .int .i64 a2] 87)).grownBy w8 (Value.slice ao x cap).ownBlock → w8.cell? ⟨wA.heap.size, 1, none⟩ = some (.slice ao x cap) ∧ w8.cell? ⟨b, o3, none⟩ = some (.int .i64 a0) ∧ w8.cell? ⟨b, o3 + 1, none⟩ = some (.int .i64 a1) ∧ w8.cell? ⟨b, o3 + 2, none⟩ = some (.int .i64 a2)) := mkH (by
              intro w8 h1 h2
              refine ⟨h1.cell 1 _ rfl, HCC.out w8 ?_⟩
              exact HZ3.out.trans (((hal.mono HZ3.out.size)).grown h2 (by have := hal.size; omega) (fun j hj => by have := own_blk HZ2.out j hj; omega)))
            rw [hV1] at HSR HLA HVS HQA HAP HQ8
            have HPP : Hid (Fp P0 ++ Fp [(a0, a1, a2)] = Fp (Ld.pcs (R.take (3 * (x + 1))))) := mkH (by rw [HP.out]; show _ = Fl pC (P0 ++ [(a0, a1, a2)]); rw [Fl_append])
            have hp1 : (0 : Int) < 3 := by decide
            have hp2 : (1 : Int) < 3 := by decide
            have hp3 : (2 : Int) < 3 := by decide
            clear hV1 hVs hbV hal
            gi_wp2_with fail
            refine Rr.round_G l' hmx (by kernel_rfl) (by rintro ⟨a9, w9, h9⟩; exact h9) 16 (fun W => W.cell? ⟨wA.heap.size, 1, none⟩ = some (.slice ao x cap) ∧ W.cell? ⟨b, o3, none⟩ = some (.int .i64 a0) ∧ W.cell? ⟨b, o3 + 1, none⟩ = some (.int .i64 a1) ∧ W.cell? ⟨b, o3 + 2, none⟩ = some (.int .i64 a2)) ⟨by simpa using c1, by simpa using v0, by simpa using v1, by simpa using v2⟩ (fun hHeld => ?_)
            generalize Wb.drew = V0 at *
            refine Rg.anyG_pure (i := 0) (oi := { dst := some 33, op := _, type := _, pos := _, after := _, guard := _ }) (v := ?_) rfl (by kernel_rfl) (by kernel_rfl) (by kernel_rfl) (by rfl) (fun _ _ _ h => h) (Or.inl ⟨by rfl, ?_⟩) (fun _ => by assumption) ?_
            rotate_left
            · (intro W hSw; (try dsimp only at hSw); go_simp; try (with_reducible rfl))
            try simp only [Act.put, List.setIfInBounds_toArray, List.set_cons_zero, List.set_cons_succ]
            refine Rg.anyG_take (i := 1) (oi := { dst := some 34, op := _, type := _, pos := _, after := _, guard := _ }) (v := ?_) rfl (by kernel_rfl) (by kernel_rfl) (by kernel_rfl) [16] (by kernel_rfl) (fun _ _ _ h => h) (Or.inl ⟨by rfl, ?_⟩) (by assumption) ?_
            rotate_left
            · (intro W hSw; (try dsimp only at hSw); go_simp; try (with_reducible rfl))
            try simp only [Act.put, List.setIfInBounds_toArray, List.set_cons_zero, List.set_cons_succ]
            refine Rg.anyG_pure (i := 2) (oi := { dst := some 35, op := _, type := _, pos := _, after := _, guard := _ }) (v := ?_) rfl (by kernel_rfl) (by kernel_rfl) (by kernel_rfl) (by rfl) (fun _ _ _ h => h) (Or.inl ⟨by rfl, ?_⟩) (fun _ => by assumption) ?_
            rotate_left
            · (intro W hSw; (try dsimp only at hSw); go_simp; try (with_reducible rfl))
            try simp only [Act.put, List.setIfInBounds_toArray, List.set_cons_zero, List.set_cons_succ]
            refine Rg.anyG_pure (i := 3) (oi := { dst := some 36, op := _, type := _, pos := _, after := _, guard := _ }) (v := ?_) rfl (by kernel_rfl) (by kernel_rfl) (by kernel_rfl) (by rfl) (fun _ _ _ h => h) (Or.inl ⟨by rfl, ?_⟩) (fun _ => by assumption) ?_
            rotate_left
            · (intro W hSw; (try dsimp only at hSw); go_simp; try (with_reducible rfl))
            try simp only [Act.put, List.setIfInBounds_toArray, List.set_cons_zero, List.set_cons_succ]
            refine Rg.anyG_take (i := 4) (oi := { dst := some 37, op := _, type := _, pos := _, after := _, guard := _ }) (v := ?_) rfl (by kernel_rfl) (by kernel_rfl) (by kernel_rfl) [16] (by kernel_rfl) (fun _ _ _ h => h) (Or.inl ⟨by rfl, ?_⟩) (by assumption) ?_
            rotate_left
            · (intro W hSw; (try dsimp only at hSw); go_simp; try (with_reducible rfl))
            try simp only [Act.put, List.setIfInBounds_toArray, List.set_cons_zero, List.set_cons_succ]
            refine Rg.anyG_pure (i := 5) (oi := { dst := some 38, op := _, type := _, pos := _, after := _, guard := _ }) (v := ?_) rfl (by kernel_rfl) (by kernel_rfl) (by kernel_rfl) (by rfl) (fun _ _ _ h => h) (Or.inl ⟨by rfl, ?_⟩) (fun _ => by assumption) ?_
            rotate_left
            · (intro W hSw; (try dsimp only at hSw); go_simp; try (with_reducible rfl))
            try simp only [Act.put, List.setIfInBounds_toArray, List.set_cons_zero, List.set_cons_succ]
            refine Rg.anyG_pure (i := 6) (oi := { dst := some 39, op := _, type := _, pos := _, after := _, guard := _ }) (v := ?_) rfl (by kernel_rfl) (by kernel_rfl) (by kernel_rfl) (by rfl) (fun _ _ _ h => h) (Or.inl ⟨by rfl, ?_⟩) (fun _ => by assumption) ?_
            rotate_left
            · (intro W hSw; (try dsimp only at hSw); go_simp; try (with_reducible rfl))
            try simp only [Act.put, List.setIfInBounds_toArray, List.set_cons_zero, List.set_cons_succ]
            refine Rg.anyG_take (i := 7) (oi := { dst := some 40, op := _, type := _, pos := _, after := _, guard := _ }) (v := ?_) rfl (by kernel_rfl) (by kernel_rfl) (by kernel_rfl) [16] (by kernel_rfl) (fun _ _ _ h => h) (Or.inl ⟨by rfl, ?_⟩) (by assumption) ?_
            rotate_left
            · (intro W hSw; (try dsimp only at hSw); go_simp; try (with_reducible rfl))
            try simp only [Act.put, List.setIfInBounds_toArray, List.set_cons_zero, List.set_cons_succ]
            refine Rg.anyG_pure (i := 8) (oi := { dst := some 41, op := _, type := _, pos := _, after := _, guard := _ }) (v := .agg #[.int .i64 a0, .int .i64 a1]) rfl (by kernel_rfl) (by kernel_rfl) (by kernel_rfl) (by rfl) (fun _ _ _ h => h) (Or.inl ⟨by rfl, ?_⟩) (fun _ => by assumption) ?_
            · (intro W hSw; (try dsimp only at hSw); go_simp; try (with_reducible rfl))
            try simp only [Act.put, List.setIfInBounds_toArray, List.set_cons_zero, List.set_cons_succ]
            refine Rg.anyG_pure (i := 9) (oi := { dst := some 42, op := _, type := _, pos := _, after := _, guard := _ }) (v := ?_) rfl (by kernel_rfl) (by kernel_rfl) (by kernel_rfl) (by rfl) (fun _ _ _ h => h) (Or.inl ⟨by rfl, ?_⟩) (fun _ => by assumption) ?_
            rotate_left
            · (intro W hSw; (try dsimp only at hSw); go_simp; try (with_reducible rfl))
            try simp only [Act.put, List.setIfInBounds_toArray, List.set_cons_zero, List.set_cons_succ]
            refine Rg.anyG_pure (i := 10) (oi := { dst := some 43, op := _, type := _, pos := _, after := _, guard := _ }) (v := ?_) rfl (by kernel_rfl) (by kernel_rfl) (by kernel_rfl) (by rfl) (fun _ _ _ h => h) (Or.inl ⟨by rfl, ?_⟩) (fun _ => by assumption) ?_
            rotate_left
            · (intro W hSw; (try dsimp only at hSw); go_simp; try (with_reducible rfl))
            try simp only [Act.put, List.setIfInBounds_toArray, List.set_cons_zero, List.set_cons_succ]
            refine Rg.anyG_take (i := 11) (oi := { dst := some 44, op := _, type := _, pos := _, after := _, guard := _ }) (v := ?_) rfl (by kernel_rfl) (by kernel_rfl) (by kernel_rfl) [16] (by kernel_rfl) (fun _ _ _ h => h) (Or.inl ⟨by rfl, ?_⟩) (by assumption) ?_
            rotate_left
            · (intro W hSw; (try dsimp only at hSw); go_simp; try (with_reducible rfl))
            try simp only [Act.put, List.setIfInBounds_toArray, List.set_cons_zero, List.set_cons_succ]
            refine Rg.anyG_pure (i := 12) (oi := { dst := some 45, op := _, type := _, pos := _, after := _, guard := _ }) (v := .agg #[.int .i64 a0, .int .i64 a1, .int .i64 a2]) rfl (by kernel_rfl) (by kernel_rfl) (by kernel_rfl) (by rfl) (fun _ _ _ h => h) (Or.inl ⟨by rfl, ?_⟩) (fun _ => by assumption) ?_
            · (intro W hSw; (try dsimp only at hSw); go_simp; try (with_reducible rfl))
            try simp only [Act.put, List.setIfInBounds_toArray, List.set_cons_zero, List.set_cons_succ]
            refine Rg.anyG_ready (rs := [13]) (by kernel_rfl) (by simp) ?_
            refine (Rg.AllG.cons (o := { dst := some 46, op := _, type := _, pos := _, after := _, guard := _ }) rfl (fun K hK => ?_) Rg.AllG.nil)
            obtain ⟨q0, q1, q2, q3⟩ := HQA.out
            go_simp
            refine hK.out _ _ ?_ (fun hHeld => ?_)
            · exact ⟨q0, q1, q2, q3⟩
            clear hK K
            try simp only [Act.put, List.setIfInBounds_toArray, List.set_cons_zero, List.set_cons_succ]
            clear q0 q1 q2 q3
            refine Rg.anyG_ready (rs := [14]) (by kernel_rfl) (by simp) ?_
            refine (Rg.AllG.cons (o := { dst := some 47, op := _, type := _, pos := _, after := _, guard := _ }) rfl (fun K hK => ?_) Rg.AllG.nil)
            refine step_append_own_src (by rfl) (.tmp 34) (.tmp 46) 49 49 (by rfl) m 87 (.agg #[.int .i64 0, .int .i64 0, .int .i64 0]) 3 24 Tryz.underlying49 infoP (by rfl) (by decide) (.slice ao x cap) x (Fp P0) (by rfl) (by exact HLA.out) (.slice (some ⟨V0.heap.size, 0, none⟩) 1 1) 1 (Fp [(a0, a1, a2)]) (by rfl) (by exact HSR.out) (by unfold maxLen; omega) (by omega) (by have := HVS.out; simp; omega) ?_
            intro v8 w8 hown8 hgr8
            obtain ⟨a8, k8, rfl, e1, e2, e3, e4, e5⟩ := HAP.out v8 w8 hown8 hgr8
            obtain ⟨u0, u1, u2, u3⟩ := two_load (P := Tryz.prog) e1
            obtain ⟨q0, q1, q2, q3⟩ := HQ8.out w8 e1 hgr8
            refine hK.out _ _ ?_ (fun hHeld => ?_)
            · exact ⟨q0, q1, q2, q3⟩
            clear hK K
            try simp only [Act.put, List.setIfInBounds_toArray, List.set_cons_zero, List.set_cons_succ]
            clear q0 q1 q2 q3
            refine Rg.anyG_pure (i := 15) (oi := { dst := some 48, op := _, type := _, pos := _, after := _, guard := _ }) (v := ?_) rfl (by kernel_rfl) (by kernel_rfl) (by kernel_rfl) (by rfl) (fun _ _ _ h => h) (Or.inl ⟨by rfl, ?_⟩) (fun _ => by assumption) ?_
            rotate_left
            · (intro W hSw; (try dsimp only at hSw); go_simp; try (with_reducible rfl))
            try simp only [Act.put, List.setIfInBounds_toArray, List.set_cons_zero, List.set_cons_succ]
            refine Rg.anyG_ready (rs := [16]) (by kernel_rfl) (by simp) ?_
            refine Rg.AllG.last (o := { dst := none, op := _, type := _, pos := _, after := _, guard := _ }) rfl (by kernel_rfl) (fun K hK => ?_)
            go_simp
            refine hK.out _ _ ?_
            clear hK K
            try simp only [Act.put, List.setIfInBounds_toArray, List.set_cons_zero, List.set_cons_succ]
            refine Rg.anyG_done (by kernel_rfl) ?_ _
            gi_wp2
            exact ⟨e2.mono (fun q hq => .inl hq), a8, k8, by have := HOK3.out; omega, e3, by rw [← HPP.out]; exact e4, e5⟩
        case done =>
          rintro D m Wd hD hm ⟨ao, cap, z0, z1, z2, z3⟩ hdf
          rw [List.length_range] at z0 z1 z2
          obtain ⟨k, hk⟩ : ∃ k, k = (N - 2 + 2) / 3 := ⟨_, rfl⟩
          rw [← hk] at z0 z1 z2
          have h3k : 3 * k = R.length := by omega
          obtain ⟨P, hP⟩ : ∃ P, P = Ld.pcs R := ⟨_, rfl⟩
          have hPl : P.length = k := by rw [hP, Ld.pcs_len]; omega
          rw [h3k, List.take_length, ← hP] at z2
          have hP1 : P.length ≤ 400 := by omega
          have hR3 : R.length % 3 = 0 := by omega
          obtain rfl : k = P.length := hPl.symm
          have HOP : Hid (OwP Wd w.heap.size ao cap P) := mkH ⟨own_mono z2 (by have := HZ0.out; omega)⟩
          have HNM : Hid (Nums bs (e0 :: kk :: R)) := mkH (by rw [← HLR.out]; exact HN.out)
          have HPE := mkH hP
          have HR3 := mkH hR3
          have hRd := HRA.out.below z3 (by omega)
          have hEd := HEA.out.below z3 (by omega)
          have HM : Hid (∀ W, Below Wd.heap.size Wd W → Calls Tryz.prog 46 #[.agg #[.int .i64 e0, .slice ao P.length cap]] W fun x w' => x = .returned (.bool (mayC e0 P)) ∧ Below W.heap.size W w') := mkH (fun W hb => may_any W e0 ao cap P (HOP.out.rd.below hb) (by omega))
          have n1 : Wd.cell? ⟨b, off + 1, none⟩ = some (.int .i64 kk) := by
            have h1 := (z3.cell (p := ⟨b, off + 1, none⟩) hblt).trans (HCL.out 1 (by have := HNL.out; omega))
            rw [HLR.out] at h1
            exact h1
          obtain ⟨c0, c1, -, -⟩ := two_load (P := Tryz.prog) z1
          have HX1 := mkH z1
          have HRd := mkH hRd
          have HEd := mkH hEd
          have HB3 : Hid (Below w.heap.size w Wd) := mkH (HBA.out.trans (z3.mono (by omega)))
          have HDF := mkH hdf
          have gk : (1 : Int) < (N : Int) := by omega
          clear hk z0 z1 z2 z3 h3k hP hPl hRd hEd hdf hR3
          by_cases hkk : (P.length : Int) = kk
          · subst hkk
            gi_wp2_with fail
            refine wpIn_wide.2 ?_
            obtain ⟨mv, hmv⟩ : ∃ mv, mv = mayC e0 P := ⟨_, rfl⟩
            rw [← hmv] at HM
            have HMV := mkH hmv
            clear hmv
            go_region_held3 (fun W => W.cell? ⟨wA.heap.size, 0, none⟩ = some (.int .i64 e0) ∧ W.cell? ⟨wA.heap.size, 1, none⟩ = some (.slice ao P.length cap) ∧ W.cell? ⟨b, off + 1, none⟩ = some (.int .i64 (P.length : Int))) (first | go_keep | exact hkeep) (first
              | (go_at_call 46; refine (HM.out _ (by (repeat (first | exact Below.refl _ _ | refine Below.drew ?_ | refine Gf.below_drewN ?_ _)))).mono ?_; rintro z w7 ⟨rfl, hb7⟩; have hkeep : w7.cell? ⟨wA.heap.size, 0, none⟩ = some (.int .i64 e0) ∧ w7.cell? ⟨wA.heap.size, 1, none⟩ = some (.slice ao P.length cap) ∧ w7.cell? ⟨b, off + 1, none⟩ = some (.int .i64 (P.length : Int)) := ⟨(hb7.cell (World.block_lt_of_cell? _ _ (by simpa using c0))).trans (by simpa using c0), (hb7.cell (World.block_lt_of_cell? _ _ (by simpa using c1))).trans (by simpa using c1), (hb7.cell (World.block_lt_of_cell? _ _ (by simpa using n1))).trans (by simpa using n1)⟩))
            all_goals
              have hb8 : Below Wd.heap.size Wd w7 := ((Below.refl _ Wd).drew).trans (by simpa using hb7)
              have HR7 := mkH (HRd.out.bel hb8)
              have HE7 := mkH (HEd.out.bel hb8)
              have HX7 := mkH (HX1.out.bel hb8)
              have HO7 := mkH (HOP.out.below hb8)
              have HB7 := mkH (HB3.out.trans (hb8.mono HB3.out.size))
              have HD7 : Hid (w7.heap[D]? = some (.deferred (some []))) := mkH ((hb8.block D (Gf.block_lt HDF.out)).trans HDF.out)
              have hDn : D ≠ w.heap.size ∧ D ≠ w.heap.size + 1 := by have := HZ0.out; omega
              have hww : w.heap.size ≤ W0.heap.size := by have := HZ0.out; omega
              clear hb7 hb8 hkeep c0 c1 n1
              obtain ⟨c0, c1, -, -⟩ := two_load (P := Tryz.prog) HX7.out
              obtain ⟨x0, x1, x2, x3⟩ := two_load (P := Tryz.prog) HR7.out
              have x4 : w7.cell? ⟨w.heap.size + 1, 0, none⟩ = some (.int .i64 0) := HE7.out.cell 0 _ rfl
              have x5 := HE7.out.frozen 0
              cases mv with
              | false =>
                obtain ⟨f1, f2, f3, f4⟩ := fin_set HR7.out HE7.out HB7.out (.int .i64 0) (.slice none 0 0) (.int .i64 5)
                have hd9 := (f4.heap (Gf.block_lt HD7.out) (fun hq => by rcases hq with h | h; exact hDn.1 h; exact hDn.2 h)).trans HD7.out
                obtain ⟨g1, g2, g3, -⟩ := (LG_own w (.int .i64 0) (.slice none 0 0) (.int .i64 5) none 0 0 [] W0.heap.size hww).putObj (s := ()) (.deferred none) ⟨f1, f2, f3, World.ownsRow_nil _ _ _ _⟩ hD hd9 rfl
                obtain ⟨y0, y1, -, -⟩ := two_load (P := Tryz.prog) g1
                have y2 := g2.cell 0 _ rfl
                have HF3 := mkH g3
                have HD9 := mkH hd9
                have HBAD : Hid (¬ ∃ e ps, Ld.Good bs e ps) := mkH (Ld.bad_eq hl HNM.out (.inr (by rw [← HPE.out]; exact HMV.out.symm)))
                clear f1 f2 f3 f4 g1 g2 g3 hd9
                go_wp2
                gi_wp2
                refine ⟨by simp, .inl ⟨_, _, rfl, run_takeDeferred HD9.out, ?_⟩⟩
                exact ⟨.tuple #[.agg #[.int .i64 0, .slice none 0 0], .int .i64 5], res_cc rfl _ _ _ (b := ⟨w.heap.size, 0, none⟩) (c := ⟨w.heap.size + 1, 0, none⟩) (x := .agg #[.int .i64 0, .slice none 0 0]) (y := .int .i64 5) (by rfl) (by rfl) (by simp [loadVar, go_sem, y0, y1]) (by simp [loadVar, go_sem, y2]), HF3.out, .inr ⟨HBAD.out, rfl⟩⟩
              | true =>
                obtain ⟨f1, f2, f3, f4⟩ := fin_set HR7.out HE7.out HB7.out (.int .i64 e0) (.slice ao P.length cap) (.int .i64 0)
                have hd9 := (f4.heap (Gf.block_lt HD7.out) (fun hq => by rcases hq with h | h; exact hDn.1 h; exact hDn.2 h)).trans HD7.out
                have ho9 := own_fr HO7.out.o f4 (fun k hk hq => by rcases hq with h | h; exact own_ne HO7.out.o HR7.out hk (by decide) h; exact own_ne HO7.out.o HE7.out hk (by decide) h)
                obtain ⟨g1, g2, g3, g4⟩ := (LG_own w (.int .i64 e0) (.slice ao P.length cap) (.int .i64 0) ao P.length cap (Fp P) W0.heap.size hww).putObj (s := ()) (.deferred none) ⟨f1, f2, f3, ho9⟩ hD hd9 rfl
                obtain ⟨y0, y1, -, -⟩ := two_load (P := Tryz.prog) g1
                have y2 := g2.cell 0 _ rfl
                have HF3 := mkH g3
                have HF4 := mkH (OwP.mk g4).rd
                have HD9 := mkH hd9
                have HG : Hid (Ld.Good bs e0 P) := mkH (by
                  have := Ld.good_of (e := e0) (R := R) (by rw [← HPE.out]; exact HNM.out) HR3.out (by rw [← HPE.out]; exact HMV.out.symm)
                  rwa [← HPE.out] at this)
                clear f1 f2 f3 f4 g1 g2 g3 g4 ho9 hd9
                go_wp2
                gi_wp2
                refine ⟨by simp, .inl ⟨_, _, rfl, run_takeDeferred HD9.out, ?_⟩⟩
                exact ⟨.tuple #[.agg #[.int .i64 e0, .slice ao P.length cap], .int .i64 0], res_cc rfl _ _ _ (b := ⟨w.heap.size, 0, none⟩) (c := ⟨w.heap.size + 1, 0, none⟩) (x := .agg #[.int .i64 e0, .slice ao P.length cap]) (y := .int .i64 0) (by rfl) (by rfl) (by simp [loadVar, go_sem, y0, y1]) (by simp [loadVar, go_sem, y2]), HF3.out, .inl ⟨e0, P, ao, cap, HG.out, hP1, rfl, HF4.out⟩⟩
          · have hne : ((P.length : Int) != kk) = true := by simpa using hkk
            gi_wp2_with fail
            refine wpIn_wide.2 ?_
            go_quiet (fail)
            obtain ⟨w7, hw7⟩ : ∃ w7, w7 = Wd.drewN nq := ⟨_, rfl⟩
            rw [← hw7]
            have hb8 : Below Wd.heap.size Wd w7 := by rw [hw7]; exact below_drewN (Below.refl _ _) _
            have HR7 := mkH (HRd.out.bel hb8)
            have HE7 := mkH (HEd.out.bel hb8)
            have HB7 := mkH (HB3.out.trans (hb8.mono HB3.out.size))
            have HD7 : Hid (w7.heap[D]? = some (.deferred (some []))) := mkH ((hb8.block D (Gf.block_lt HDF.out)).trans HDF.out)
            have hDn : D ≠ w.heap.size ∧ D ≠ w.heap.size + 1 := by have := HZ0.out; omega
            have hww : w.heap.size ≤ W0.heap.size := by have := HZ0.out; omega
            have HBAD : Hid (¬ ∃ e ps, Ld.Good bs e ps) := mkH (Ld.bad_eq hl HNM.out (.inl (by rw [← HPE.out]; exact fun h => hkk h.symm)))
            clear hb8 c0 c1 n1 hw7 hkk
            obtain ⟨x0, x1, x2, x3⟩ := two_load (P := Tryz.prog) HR7.out
            have x4 : w7.cell? ⟨w.heap.size + 1, 0, none⟩ = some (.int .i64 0) := HE7.out.cell 0 _ rfl
            have x5 := HE7.out.frozen 0
            obtain ⟨f1, f2, f3, f4⟩ := fin_set HR7.out HE7.out HB7.out (.int .i64 0) (.slice none 0 0) (.int .i64 5)
            have hd9 := (f4.heap (Gf.block_lt HD7.out) (fun hq => by rcases hq with h | h; exact hDn.1 h; exact hDn.2 h)).trans HD7.out
            obtain ⟨g1, g2, g3, -⟩ := (LG_own w (.int .i64 0) (.slice none 0 0) (.int .i64 5) none 0 0 [] W0.heap.size hww).putObj (s := ()) (.deferred none) ⟨f1, f2, f3, World.ownsRow_nil _ _ _ _⟩ hD hd9 rfl
            obtain ⟨y0, y1, -, -⟩ := two_load (P := Tryz.prog) g1
            have y2 := g2.cell 0 _ rfl
            have HF3 := mkH g3
            have HD9 := mkH hd9
            clear f1 f2 f3 f4 g1 g2 g3 hd9
            go_wp2
            gi_wp2
            refine ⟨by simp, .inl ⟨_, _, rfl, run_takeDeferred HD9.out, ?_⟩⟩
            exact ⟨.tuple #[.agg #[.int .i64 0, .slice none 0 0], .int .i64 5], res_cc rfl _ _ _ (b := ⟨w.heap.size, 0, none⟩) (c := ⟨w.heap.size + 1, 0, none⟩) (x := .agg #[.int .i64 0, .slice none 0 0]) (y := .int .i64 5) (by rfl) (by rfl) (by simp [loadVar, go_sem, y0, y1]) (by simp [loadVar, go_sem, y2]), HF3.out, .inr ⟨HBAD.out, rfl⟩⟩
        case stop =>
          rintro D m k W' hD hm hk g1 hdf
          have HDF := mkH hdf
          have hg := (LZ_own w N W0.heap.size m (by have := HZ0.out; omega)).putObj (.deferred none) g1 hD hdf rfl
          obtain ⟨f1, f2, f3, f4⟩ := hg
          have HBAD : Hid (¬ ∃ e ps, Ld.Good bs e ps) := mkH (Ld.bad_len hl HN.out (.inr (by rw [← HNL.out]; exact f4)))
          obtain ⟨y0, y1, -, -⟩ := two_load (P := Tryz.prog) f1
          have y2 : (W'.putObj D (.deferred none)).cell? ⟨w.heap.size + 1, 0, none⟩ = some (.int .i64 5) := f2.cell 0 _ rfl
          have HF3 := mkH f3
          clear f1 f2 f3 f4 g1 hdf
          gi_wp2
          refine ⟨by simp, .inl ⟨_, _, rfl, run_takeDeferred HDF.out, ?_⟩⟩
          exact ⟨.tuple #[.agg #[.int .i64 0, .slice none 0 0], .int .i64 5], res_cc rfl _ _ _ (b := ⟨w.heap.size, 0, none⟩) (c := ⟨w.heap.size + 1, 0, none⟩) (x := .agg #[.int .i64 0, .slice none 0 0]) (y := .int .i64 5) (by rfl) (by rfl) (by simp [loadVar, go_sem, y0, y1]) (by simp [loadVar, go_sem, y2]), HF3.out, .inr ⟨HBAD.out, rfl⟩⟩
  · have HBAD := mkH (Ld.bad_none hl hno)
    clear hno
    obtain ⟨f1, f2, f3, -⟩ := fin_set HRA.out HEA.out HBA.out (.int .i64 0) (.slice none 0 0) (.int .i64 5)
    obtain ⟨x0, x1, x2, x3⟩ := two_load (P := Tryz.prog) HRA.out
    have x4 : wA.cell? ⟨w.heap.size + 1, 0, none⟩ = some (.int .i64 0) := HEA.out.cell 0 _ rfl
    have x5 := HEA.out.frozen 0
    obtain ⟨y0, y1, -, -⟩ := two_load (P := Tryz.prog) f1
    have y2 := f2.cell 0 _ rfl
    have HF3 := mkH f3
    clear f1 f2 f3
    gi_wp2
    exact ⟨.tuple #[.agg #[.int .i64 0, .slice none 0 0], .int .i64 5], res_cc rfl _ _ _ (b := ⟨w.heap.size, 0, none⟩) (c := ⟨w.heap.size + 1, 0, none⟩) (x := .agg #[.int .i64 0, .slice none 0 0]) (y := .int .i64 5) (by rfl) (by rfl) (by simp [loadVar, go_sem, y0, y1]) (by simp [loadVar, go_sem, y2]), HF3.out, .inr ⟨HBAD.out, rfl⟩⟩
end Go.Proofs.YtcpmcfagibmboabGreat.Lf
