/-
  The walk of PlaceRanges.
-/
import Derived.Test.YtiinhfkpfklgjaaPlOf0
import Derived.Shelf.SlSortCmp.QuietGrown
namespace Go.Proofs.Ytiinhfkpfklgjaa.Prn
open Go.RowKit Pl Pw Po Pof Go.Sort
set_option linter.unusedVariables false
set_option maxRecDepth 20000

/-- A range that lies in a block of its own. -/
def Bx (w : World) (b : Nat) (lo hi : Int) : Prop := w.heap[b]? = some (.cells #[.int .i64 lo, .int .i64 hi] 26 (0, 0))
theorem Bx.new (w : World) (lo hi : Int) : Bx (w.alloc (.cells #[.int .i64 lo, .int .i64 hi] 26)) w.heap.size lo hi := heap_alloc_new _ _
theorem Bx.new1 (w : World) (o : Obj) (lo hi : Int) : Bx ((w.alloc o).alloc (.cells #[.int .i64 lo, .int .i64 hi] 26)) (w.heap.size + 1) lo hi := by
  have h := Bx.new (w.alloc o) lo hi
  rwa [show (w.alloc o).heap.size = w.heap.size + 1 by simp] at h
theorem Bx.lt {w : World} {b : Nat} {lo hi : Int} (h : Bx w b lo hi) : b < w.heap.size := by
  rcases Nat.lt_or_ge b w.heap.size with h1 | h1
  · exact h1
  · unfold Bx at h; rw [Array.getElem?_eq_none h1] at h; cases h
theorem Bx.gr {w w' : World} {b : Nat} {lo hi : Int} (h : Bx w b lo hi) (hg : Gr w w') : Bx w' b lo hi := by
  unfold Bx; rw [hg.below.block b h.lt]; exact h
theorem Bx.alloc {w : World} {b : Nat} {lo hi : Int} (h : Bx w b lo hi) (o : Obj) : Bx (w.alloc o) b lo hi := h.gr ((Gr.refl w).alloc o)
theorem Bx.c0 {w : World} {b : Nat} {lo hi : Int} (h : Bx w b lo hi) : w.cell? ⟨b, 0, none⟩ = some (.int .i64 lo) := by
  simp only [World.cell?]; rw [show w.heap[b]? = _ from h]; rfl
theorem Bx.c1 {w : World} {b : Nat} {lo hi : Int} (h : Bx w b lo hi) : w.cell? ⟨b, 1, none⟩ = some (.int .i64 hi) := by
  simp only [World.cell?]; rw [show w.heap[b]? = _ from h]; rfl
theorem Bx.q0 {w : World} {b : Nat} {lo hi : Int} (h : Bx w b lo hi) (n : Nat) (os : Array Obj) : (grow (w.drewN n) os).cell? ⟨b, 0, none⟩ = some (.int .i64 lo) := cell_grown h.lt h.c0 n os
theorem Bx.q1 {w : World} {b : Nat} {lo hi : Int} (h : Bx w b lo hi) (n : Nat) (os : Array Obj) : (grow (w.drewN n) os).cell? ⟨b, 1, none⟩ = some (.int .i64 hi) := cell_grown h.lt h.c1 n os

theorem gr_grow (w : World) (n : Nat) (os : Array Obj) : Gr w (grow (w.drewN n) os) := by
  refine ⟨⟨rfl, rfl, rfl, by simp [grow, World.drewN], fun k hk => ?_⟩, Nat.le_add_right _ _⟩
  show (w.heap ++ os)[k]? = _
  rw [Array.getElem?_append_left hk]
theorem quietly {f : FuncId} {args : Array Value} {w : World} {n : Nat} {os : Array Obj} {v : Value} (h : Calls Try.prog f args (grow (w.drewN n) os) fun e w' => e = .returned v ∧ Gr (grow (w.drewN n) os) w') :
    Calls Try.prog f args (grow (w.drewN n) os) fun e w'' => e = .returned v ∧ ∃ p : GrownBy, w'' = grow (w.drewN p.n) p.os :=
  Calls.grown_of (h.mono fun _ _ ⟨he, hg⟩ => ⟨he, hg.grown⟩)
theorem may_gr (w : World) (lo hi : Int) : Calls Try.prog 14 #[.agg #[.int .i64 lo, .int .i64 hi]] w fun e w' => e = .returned (.bool (may (lo, hi))) ∧ Gr w w' :=
  (may_any w lo hi).mono fun _ _ ⟨he, hw⟩ => ⟨he, hw ▸ (Gr.refl w).alloc _⟩
theorem rmay_gr (w : World) (lo hi : Int) : Calls Try.prog 15 #[.agg #[.int .i64 lo, .int .i64 hi]] w fun e w' => e = .returned (.bool (may (lo, hi))) ∧ Gr w w' :=
  (rmay_any w lo hi).mono fun _ _ ⟨he, hw⟩ => ⟨he, hw ▸ (Gr.refl w).alloc _⟩

theorem splitV_form (r : Rg) (p : Int) : ∃ a b c d e : Int, splitV r p = .tuple #[.agg #[.int .i64 a, .int .i64 b], .agg #[.int .i64 c, .int .i64 d], .int .i64 e] := by
  unfold splitV
  split
  · exact ⟨r.1, p, p, r.2, 0, rfl⟩
  · exact ⟨0, 0, 0, 0, 2, rfl⟩

set_option maxHeartbeats 4000000 in
theorem placeRanges (w : World) (lo hi lo2 hi2 p : Int) :
    Calls Try.prog 4 #[.agg #[.int .i64 lo, .int .i64 hi], .agg #[.int .i64 lo2, .int .i64 hi2], .int .i64 p] w fun e w' => e = .returned (.bool true) ∧ Below w.heap.size w w' := by
  obtain ⟨a, b, c, d, e, hS⟩ := splitV_form (lo, hi) p
  have h1 := fun W => split_any W lo hi p
  have h2 := fun W => rsplit_any W lo hi p
  rw [hS] at h1 h2
  clear hS
  have hs0 : Hid (Gr w ((w.alloc (.cells #[.int .i64 lo, .int .i64 hi] 26)).alloc (.cells #[.int .i64 lo2, .int .i64 hi2] 26))) := mkH (((Gr.refl w).alloc _).alloc _)
  have k3 := mkH ((Bx.new w lo hi).alloc (.cells #[.int .i64 lo2, .int .i64 hi2] 26))
  have k4 := mkH (Bx.new1 w (.cells #[.int .i64 lo, .int .i64 hi] 26) lo2 hi2)
  go_enter Try.func4, Try.ntmps4
  go_wp2_with fail
  refine (h1 _).mono ?_
  rintro e1 w1 ⟨rfl, hg1⟩
  have k3' := k3.out.gr hg1
  have k4' := k4.out.gr hg1
  have hs1 := hs0.out.trans hg1
  clear hg1 k3 k4 hs0 h1
  have l3 := k3'.lt
  have l4 := k4'.lt
  have c30 := k3'.c0
  have c31 := k3'.c1
  have K3 := mkH k3'
  have K4 := mkH k4'
  have HS1 := mkH hs1
  clear k3' k4' hs1
  have k7 := mkH ((Bx.new w1 a b).alloc (.cells #[.int .i64 c, .int .i64 d] 26))
  have k8 := mkH (Bx.new1 w1 (.cells #[.int .i64 a, .int .i64 b] 26) c d)
  have hs1 := mkH (((Gr.refl w1).alloc (.cells #[.int .i64 a, .int .i64 b] 26)).alloc (.cells #[.int .i64 c, .int .i64 d] 26))
  go_wp2_with fail
  refine (h2 _).mono ?_
  rintro e2 w2 ⟨rfl, hg2⟩
  have k7' := k7.out.gr hg2
  have k8' := k8.out.gr hg2
  have hs2 := hs1.out.trans hg2
  have K3' := K3.out.gr hs2
  have K4' := K4.out.gr hs2
  have HS2 := mkH (HS1.out.trans hs2)
  clear hg2 k7 k8 hs1 K3 K4 HS1 h2 hs2 c30 c31 l3 l4
  generalize w1.heap.size = B1 at *
  have K3'' := mkH K3'
  have K4'' := mkH K4'
  have K7'' := mkH k7'
  have K8'' := mkH k8'
  clear K3' K4' k7' k8'
  go_wp2_with fail
  have hgq := ((Gr.refl w2).alloc (.cells #[.int .i64 a, .int .i64 b] 26)).alloc (.cells #[.int .i64 c, .int .i64 d] 26)
  have m3 := K3''.out.gr hgq
  have m4 := K4''.out.gr hgq
  have m7 := K7''.out.gr hgq
  have m8 := K8''.out.gr hgq
  have m10 := (Bx.new w2 a b).alloc (.cells #[.int .i64 c, .int .i64 d] 26)
  have m11 := Bx.new1 w2 (.cells #[.int .i64 a, .int .i64 b] 26) c d
  have HS3 := mkH (HS2.out.trans hgq)
  clear hgq K3'' K4'' K7'' K8'' HS2
  generalize w2.heap.size = B2 at *
  generalize (w2.alloc (.cells #[.int .i64 a, .int .i64 b] 26)).alloc (.cells #[.int .i64 c, .int .i64 d] 26) = wq at *
  have q30 := m3.q0
  have q31 := m3.q1
  have q40 := m4.q0
  have q41 := m4.q1
  have q70 := m7.q0
  have q71 := m7.q1
  have q80 := m8.q0
  have q81 := m8.q1
  have q100 := m10.q0
  have q101 := m10.q1
  have q110 := m11.q0
  have q111 := m11.q1
  clear m3 m4 m7 m8 m10 m11
  have g1 := guardR
  have e1 := eqlR a b a b
  have e2 := eqlR c d c d
  have hM := fun W => may_gr W lo hi
  have hRM := fun W => rmay_gr W lo hi
  have hI := fun W => in_any W lo hi p
  have hRI := fun W => rin_any W lo hi p
  have hE := fun W => meet_any W lo hi lo2 hi2
  have hRE := fun W => rmeet_any W lo hi lo2 hi2
  generalize may (lo, hi) = m at hM hRM
  generalize inn (lo, hi) p = i at hI hRI
  generalize meet (lo, hi) (lo2, hi2) = r at hE hRE
  obtain ⟨r1, r2⟩ := r
  unfold R at hE hRE
  have e3 := eqlR r1 r2 r1 r2
  have mixed : Try.prog.follows Departure.mixedOrders = true := by kernel_rfl
  go_quiet_grown (first | (go_at_call 14; exact quietly (hM _)) | (go_at_call 15; exact quietly (hRM _)) | (go_at_call 16; exact quietly (hI _)) | (go_at_call 17; exact quietly (hRI _)) | (go_at_call 18; exact quietly (hE _)) | (go_at_call 19; exact quietly (hRE _)) | (go_at_call 11; exact quietly (works_any _)))
  go_wp2
  go_ret
  exact ⟨rfl, (HS3.out.trans (gr_grow _ _ _)).below⟩
end Go.Proofs.Ytiinhfkpfklgjaa.Prn
