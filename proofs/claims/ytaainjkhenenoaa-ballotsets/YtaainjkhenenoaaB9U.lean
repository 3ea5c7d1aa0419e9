/-
  Has, Add and Len of sets: the walks.
-/
import Derived.Test.YtaainjkhenenoaaB9T
namespace Go.Proofs.Ytaainjkhenenoaa.Bu
open Go.RowKit Kt Dk Bm Br Bt Go.Maps Go.ChangeMaps
set_option linter.unusedVariables false
set_option linter.unusedSimpArgs false
set_option maxRecDepth 20000

theorem idle_has (p : Addr) (w : World) : CallsD Try.prog 37 #[.pointer (some p)] .returning w fun e u' w' => e = .returned (.tuple #[]) ∧ u' = .returning ∧ w' = w := by
  refine callsD_of_wpS Try.func37 rfl fun c₀ cs hu => ?_
  apply wpS_seq
  apply wpS_region
  simp [wpOpsS, go_sem, recoverD, hu, Try.ntmps37, Exit.thenS]
  refine wpS_of_wp ?_
  simp only [Array.replicate_succ, Array.replicate_zero, List.push_toArray, List.append_toArray, List.nil_append, List.cons_append, List.setIfInBounds_toArray, List.set_cons_zero, List.set_cons_succ]
  go_wp2
  cases c₀
  simp_all [bodyPostS, results, Try.results37]

theorem idle_add (p : Addr) (w : World) : CallsD Try.prog 38 #[.pointer (some p)] .returning w fun e u' w' => e = .returned (.tuple #[]) ∧ u' = .returning ∧ w' = w := by
  refine callsD_of_wpS Try.func38 rfl fun c₀ cs hu => ?_
  apply wpS_seq
  apply wpS_region
  simp [wpOpsS, go_sem, recoverD, hu, Try.ntmps38, Exit.thenS]
  refine wpS_of_wp ?_
  simp only [Array.replicate_succ, Array.replicate_zero, List.push_toArray, List.append_toArray, List.nil_append, List.cons_append, List.setIfInBounds_toArray, List.set_cons_zero, List.set_cons_succ]
  go_wp2
  cases c₀
  simp_all [bodyPostS, results, Try.results38]
theorem results_one {fn : Func} {p : Tmp} {t : TypeId} (h : fn.results = #[.cell p t]) (tmps : Array Value) (P : Program) (w : World) {b : Addr} {x : Value}
    (hp : tmps.getD p undef = .pointer (some b)) (hx : (loadVar t b).run P w = .ok x w) : (results fn tmps).run P w = .ok x w := by
  have hp' : tmps[p]?.getD undef = .pointer (some b) := by simpa using hp
  simp only [results, h]
  simp [Sem.run_bind, Result.andThen, hp', asAddr, hx]
theorem load_b {w : World} {b : Nat} {v : Value} (h : w.cell? ⟨b, 0, none⟩ = some v) : (loadVar 4 ⟨b, 0, none⟩).run Try.prog w = .ok v w := by
  go_simp

theorem eql_map {P : Program} (w : World) (t k e : TypeId) (mo : Option Nat) (h : P.underlying t = some (.map k e)) : (binOp .eql t (.map mo) (.map none)).run P w = .ok (.bool mo.isNone) w := by
  have h1 : ∀ d, (Op.equalIn (d + 1) t (.map mo) (.map none)).run P w = .ok mo.isNone w := fun d => by cases mo <;> simp [Op.equalIn, run_underlying h]
  have h2 : (Op.equal t (.map mo) (.map none)).run P w = .ok mo.isNone w := h1 9999
  simp only [binOp]
  simp [h2]

theorem len_any {B : Nat} {w : World} {Sb : Nat} {mo : Option Nat} {l : List Int} (h : Ss B w Sb mo l) : Calls Try.prog 26 #[.pointer (some ⟨Sb, 0, none⟩)] w fun e w' => e = .returned (.int .i64 (l.length : Int)) ∧ w' = w := by
  have c0 := h.cell
  have hl := h.len
  clear h
  go_enter Try.func26, Try.ntmps26
  go_wp2
  go_ret
  exact ⟨rfl, rfl⟩

set_option maxHeartbeats 1000000 in
theorem has_any {B : Nat} {w : World} {Sb : Nat} {mo : Option Nat} {l : List Int} (h : Ss B w Sb mo l) (k : Int) (hk : (Lit.int .i64 k).wf = true) : Calls Try.prog 24 #[.pointer (some ⟨Sb, 0, none⟩), .int .i64 k] w fun e w' => e = .returned (.bool (decide (k ∈ l))) ∧ Below w.heap.size w w' := by
  have hmf := hmf
  have hb1 : Below w.heap.size w (w.alloc (.cells #[.bool false] 4)) := (Below.refl _ w).alloc (Nat.le_refl _) _
  have hb2 : Below w.heap.size w (w.alloc (.cells #[.bool (decide (k ∈ l))] 4)) := (Below.refl _ w).alloc (Nat.le_refl _) _
  have c0 := (h.below hb1).cell
  have hlk := (h.below hb1).look hk
  generalize decide (k ∈ l) = r at *
  have HB2 := mkH hb2
  clear h hb1 hb2 hk
  go_enter_defers Try.func24, Try.ntmps24
  go_wp2
  refine leaves_cons (f := 37) (args := #[.pointer (some ⟨w.heap.size, 0, none⟩)]) (by simp) (by simp [go_sem]) ?_
  refine (idle_has _ _).mono ?_
  rintro e u' w'' ⟨rfl, rfl, rfl⟩
  exact ⟨_, results_one rfl _ _ _ (b := ⟨w.heap.size, 0, none⟩) rfl (load_b (cell_new_at w _ _ 0 _ rfl)), rfl, HB2.out⟩

/-- What Add leaves. -/
def AddP (B : Nat) (w : World) (Sb : Nat) (mo : Option Nat) (l : List Int) (k : Int) (e : Ending) (w' : World) : Prop :=
  e = .returned (.bool (decide (k ∉ l))) ∧ (∃ mo', Ss B w' Sb mo' (if k ∈ l then l else l ++ [k])) ∧ Fr (fun i => i = Sb ∨ mo = some i) w w'
theorem add_end {B : Nat} {w w4 : World} {Sb : Nat} {mo mo' : Option Nat} {l : List Int} {k : Int} (hlt : Sb < w.heap.size) (hf : Fr (fun i => i = Sb ∨ mo = some i) w w4) (hs : Ss B w4 Sb mo' (if k ∈ l then l else l ++ [k])) (hm : ∀ i, mo' = some i → i ≠ w.heap.size) (u : Value) :
    (∃ mo', Ss B (w4.setCell ⟨w.heap.size, 0, none⟩ u) Sb mo' (if k ∈ l then l else l ++ [k])) ∧ Fr (fun i => i = Sb ∨ mo = some i) w (w4.setCell ⟨w.heap.size, 0, none⟩ u) := by
  have h1 : Fr (fun i => i = w.heap.size) w4 (w4.setCell ⟨w.heap.size, 0, none⟩ u) := ⟨rfl, rfl, rfl, by simp, fun i hi hn => heap_setCell_other w4 ⟨w.heap.size, 0, none⟩ i u hn⟩
  exact ⟨⟨mo', hs.fr h1 (by omega) hm⟩, hf.trans h1 (fun i hi => .inr (by omega))⟩

set_option maxHeartbeats 2000000 in
theorem add_some {B : Nat} {w : World} {Sb Mb : Nat} {l : List Int} (h : Ss B w Sb (some Mb) l) (hl : l.length ≤ 1000) (k : Int) (hk : (Lit.int .i64 k).wf = true) : Calls Try.prog 25 #[.pointer (some ⟨Sb, 0, none⟩), .int .i64 k] w fun e w' => AddP B w Sb (some Mb) l k e w' := by
  have hmf := hmf
  have hlt := block_lt h.2.1
  have hMlt : Mb < w.heap.size := by
    rcases h.2.2 with ⟨e, -⟩ | ⟨Mb', D, e, -, -, ho, -⟩
    · cases e
    · cases e; exact ho.lt
  have hb1 : Below w.heap.size w (w.alloc (.cells #[.bool false] 4)) := (Below.refl _ w).alloc (Nat.le_refl _) _
  have hS1 := h.below hb1
  have c0 := hS1.cell
  have hl0 := hS1.len
  obtain ⟨w4, hupd, hS4, hf4⟩ := hS1.put (by omega) hk
  have c4 := hS4.cell
  have hl4 := hS4.len
  have hh4 : w4.heap[w.heap.size]? = some (.cells #[.bool false] 4 (0, 0)) := (hf4.heap (k := w.heap.size) (by simp) (by omega)).trans (heap_alloc_new w _)
  have d4 : w4.cell? ⟨w.heap.size, 0, none⟩ = some (.bool false) := by rw [cell_of_row _ _ _ _ _ _ hh4]; rfl
  have df : w4.frozen? ⟨w.heap.size, 0, none⟩ = false := frozen_of_row _ _ _ _ _ hh4
  have HEND : Hid (∀ u, (∃ mo', Ss B (w4.setCell ⟨w.heap.size, 0, none⟩ u) Sb mo' (if k ∈ l then l else l ++ [k])) ∧ Fr (fun i => i = Sb ∨ some Mb = some i) w (w4.setCell ⟨w.heap.size, 0, none⟩ u)) := fun u =>
    add_end hlt (((Fr.ofBelow (F := fun i => i = Sb ∨ some Mb = some i) hb1)).trans hf4 (fun i hi => .inl (.inr (by rw [hi])))) hS4 (fun i hi => by cases hi; omega) u
  have HCE : Hid (∀ u, (w4.setCell ⟨w.heap.size, 0, none⟩ u).cell? ⟨w.heap.size, 0, none⟩ = some u) := fun u => World.cell?_setCell_same' w4 _ u (by rw [d4]; rfl)
  obtain ⟨r, hr, hrl⟩ : ∃ r : Bool, decide (k ∉ l) = r ∧ decide (l.length < (if k ∈ l then l else l ++ [k]).length) = r := by
    by_cases hkl : k ∈ l
    · exact ⟨false, by simp [hkl], by simp [hkl]⟩
    · exact ⟨true, by simp [hkl], by rw [if_neg hkl, List.length_append, decide_eq_true_iff]; simp⟩
  have HR := mkH hr
  obtain ⟨n', hn'⟩ : ∃ n', (if k ∈ l then l else l ++ [k]).length = n' := ⟨_, rfl⟩
  rw [hn'] at hl4 hrl
  have HRL := mkH hrl
  clear hrl
  clear h hb1 hS1 hS4 hf4 hh4 hr hn' hk
  have HP : Hid (∀ e w', AddP B w Sb (some Mb) l k e w' → AddP B w Sb (some Mb) l k e w') := mkH (fun _ _ h => h)
  have hq := eql_map (P := Try.prog) (w.alloc (.cells #[.bool false] 4)) 41 _ _ (some Mb) Try.underlying41
  simp only [Option.isNone] at hq
  go_enter_defers Try.func25, Try.ntmps25
  go_wp2
  rw [HRL.out]
  refine leaves_cons (f := 38) (args := #[.pointer (some ⟨w.heap.size, 0, none⟩)]) (by simp) (by simp [go_sem]) ?_
  refine (idle_add _ _).mono ?_
  rintro e u' w'' ⟨rfl, rfl, rfl⟩
  exact ⟨_, results_one rfl _ _ _ (b := ⟨w.heap.size, 0, none⟩) rfl (load_b (HCE.out _)), by rw [HR.out], HEND.out _⟩

set_option maxHeartbeats 2000000 in
theorem add_none {B : Nat} {w : World} {Sb : Nat} (h : Ss B w Sb none []) (hB : B ≤ w.heap.size) (k : Int) (hk : (Lit.int .i64 k).wf = true) : Calls Try.prog 25 #[.pointer (some ⟨Sb, 0, none⟩), .int .i64 k] w fun e w' => AddP B w Sb none [] k e w' := by
  have hmf := hmf
  have hmm := @run_makeMap Try.prog
  have hlt := block_lt h.2.1
  have hb1 : Below w.heap.size w (w.alloc (.cells #[.bool false] 4)) := (Below.refl _ w).alloc (Nat.le_refl _) _
  have hb2 : Below w.heap.size w ((w.alloc (.cells #[.bool false] 4)).alloc (.map #[] 0)) := hb1.alloc (by simp) _
  have c1 := (h.below hb1).cell
  have c2 := (h.below hb2).cell
  have f2 := (h.below hb2).frozen
  obtain ⟨w3, hw3⟩ : ∃ w3, ((w.alloc (.cells #[.bool false] 4)).alloc (.map #[] 0)).setCell ⟨Sb, 0, none⟩ (.map (some (w.heap.size + 1))) = w3 := ⟨_, rfl⟩
  have hF3 : Fr (fun i => i = Sb) ((w.alloc (.cells #[.bool false] 4)).alloc (.map #[] 0)) w3 := by
    rw [← hw3]
    exact ⟨rfl, rfl, rfl, by simp, fun i hi hn => heap_setCell_other _ ⟨Sb, 0, none⟩ i _ hn⟩
  have hS3 : Ss B w3 Sb (some (w.heap.size + 1)) [] := by
    refine ⟨h.1, ?_, .inr ⟨w.heap.size + 1, .map [], rfl, by omega, by omega, ?_, fun j => rfl, rfl⟩⟩
    · rw [← hw3, heap_setCell_same _ Sb 0 #[.map none] _ _ (h.below hb2).2.1]
      rfl
    · have h0 := World.ownsMap_made (H := Unit) (w.alloc (.cells #[.bool false] 4)) Try.prog 3 unitElem
      obtain ⟨es, clock, hh, r⟩ := h0
      have hs1 : (w.alloc (.cells #[.bool false] 4)).heap.size = w.heap.size + 1 := by simp
      rw [hs1] at hh
      exact ⟨es, clock, (hF3.heap (k := w.heap.size + 1) (by simp) (by omega)).trans hh, r⟩
  have c3 := hS3.cell
  have hl3 := hS3.len
  obtain ⟨w4, hupd, hS4, hf4⟩ := hS3.put (by simp) hk
  have c4 := hS4.cell
  have hl4 := hS4.len
  have hh4 : w4.heap[w.heap.size]? = some (.cells #[.bool false] 4 (0, 0)) := by
    refine (hf4.heap (k := w.heap.size) (by have := hF3.size; simp at this; omega) (by omega)).trans ?_
    refine (hF3.heap (k := w.heap.size) (by simp; omega) (by omega)).trans ?_
    refine (Below.heap_alloc _ _ w.heap.size (by simp)).trans ?_
    exact heap_alloc_new w _
  have d4 : w4.cell? ⟨w.heap.size, 0, none⟩ = some (.bool false) := by rw [cell_of_row _ _ _ _ _ _ hh4]; rfl
  have df : w4.frozen? ⟨w.heap.size, 0, none⟩ = false := frozen_of_row _ _ _ _ _ hh4
  have HEND : Hid (∀ u, (∃ mo', Ss B (w4.setCell ⟨w.heap.size, 0, none⟩ u) Sb mo' (if k ∈ ([] : List Int) then [] else [] ++ [k])) ∧ Fr (fun i => i = Sb ∨ none = some i) w (w4.setCell ⟨w.heap.size, 0, none⟩ u)) := fun u =>
    add_end hlt ((((Fr.ofBelow (F := fun i => i = Sb ∨ none = some i) hb2)).trans hF3 (fun i hi => .inl (.inl hi))).trans hf4 (fun i hi => .inr (by omega))) hS4 (fun i hi => by cases hi; omega) u
  have HCE : Hid (∀ u, (w4.setCell ⟨w.heap.size, 0, none⟩ u).cell? ⟨w.heap.size, 0, none⟩ = some u) := fun u => World.cell?_setCell_same' w4 _ u (by rw [d4]; rfl)
  have HR : Hid (decide (k ∉ ([] : List Int)) = true) := by show _ = _; simp
  have hl4' : ∀ ty, (Builtin.len_ #[41] ty #[.map (some (w.heap.size + 1))]).run Try.prog w4 = .ok (.int .i64 1) w4 := fun ty => by simpa using hl4 ty
  have hl3' : ∀ ty, (Builtin.len_ #[41] ty #[.map (some (w.heap.size + 1))]).run Try.prog w3 = .ok (.int .i64 0) w3 := fun ty => by simpa using hl3 ty
  have hq := eql_map (P := Try.prog) (w.alloc (.cells #[.bool false] 4)) 41 _ _ none Try.underlying41
  simp only [Option.isNone] at hq
  clear h hb1 hb2 hS3 hS4 hf4 hF3 hh4 hk hl3 hl4 hlt
  go_enter_defers Try.func25, Try.ntmps25
  go_wp2
  refine leaves_cons (f := 38) (args := #[.pointer (some ⟨w.heap.size, 0, none⟩)]) (by simp) (by simp [go_sem]) ?_
  refine (idle_add _ _).mono ?_
  rintro e u' w'' ⟨rfl, rfl, rfl⟩
  exact ⟨_, results_one rfl _ _ _ (b := ⟨w.heap.size, 0, none⟩) rfl (load_b (HCE.out _)), by rw [HR.out], HEND.out _⟩

theorem add_any {B : Nat} {w : World} {Sb : Nat} {mo : Option Nat} {l : List Int} (h : Ss B w Sb mo l) (hB : B ≤ w.heap.size) (hl : l.length ≤ 1000) (k : Int) (hk : (Lit.int .i64 k).wf = true) : Calls Try.prog 25 #[.pointer (some ⟨Sb, 0, none⟩), .int .i64 k] w fun e w' => AddP B w Sb mo l k e w' := by
  cases mo with
  | none =>
    rcases h.2.2 with ⟨-, rfl⟩ | ⟨Mb, D, e, -⟩
    · exact add_none h hB k hk
    · cases e
  | some Mb => exact add_some h hl k hk

theorem sadd_nil (w : World) (s : ByteArray) : Calls Try.prog 27 #[.pointer none, .string s] w fun e w' => e = .returned (.bool false) ∧ Below w.heap.size w w' := by
  have HB : Hid (Below w.heap.size w (w.alloc (.cells #[.bool false] 4))) := (Below.refl _ w).alloc (Nat.le_refl _) _
  go_enter_defers Try.func27, Try.ntmps27
  go_wp2
  exact ⟨_, results_one rfl _ _ _ (b := ⟨w.heap.size, 0, none⟩) rfl (load_b (cell_new_at w _ _ 0 _ rfl)), rfl, HB.out⟩
theorem shas_nil (w : World) (s : ByteArray) : Calls Try.prog 28 #[.pointer none, .string s] w fun e w' => e = .returned (.bool false) ∧ Below w.heap.size w w' := by
  have HB : Hid (Below w.heap.size w (w.alloc (.cells #[.bool false] 4))) := (Below.refl _ w).alloc (Nat.le_refl _) _
  go_enter_defers Try.func28, Try.ntmps28
  go_wp2
  exact ⟨_, results_one rfl _ _ _ (b := ⟨w.heap.size, 0, none⟩) rfl (load_b (cell_new_at w _ _ 0 _ rfl)), rfl, HB.out⟩
theorem slen_nil (w : World) : Calls Try.prog 29 #[.pointer none] w fun e w' => e = .returned (.int .i64 0) ∧ w' = w := by
  go_enter Try.func29, Try.ntmps29
  go_wp2
  go_ret
  exact ⟨rfl, rfl⟩
end Go.Proofs.Ytaainjkhenenoaa.Bu
