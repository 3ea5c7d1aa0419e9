/-
  slices.BinarySearch of rising numbers; remove's function, says.
-/
import Derived.Test.YteaempemdolcjaaNtY
import Derived.Test.YteaempemdolcjaaNtP
import Derived.Test.YteaempemdolcjaaNtSh
import Derived.Defers
import Derived.Recover
import Derived.WalkKit
namespace Go.Proofs.Yteaempemdolcjaa.Nz
open Go.RowKit Kt Gf Nr Gk Nw Nx Na No Np Ny
set_option linter.unusedVariables false
set_option linter.unusedSimpArgs false
set_option maxRecDepth 20000

set_option maxHeartbeats 1000000 in
theorem bs_any (w : World) (ao : Option Addr) (cap : Nat) (ns : List Int) (hr : RowE w ao ns) (hs : ns.Pairwise (· ≤ ·)) (hl : ns.length ≤ 1000000) (x : Int) :
    Calls Try.prog 45 #[.slice ao ns.length cap, .int .i64 x] w fun e w' => ∃ k : Int, e = .returned (.tuple #[.int .i64 k, .bool (decide (x ∈ ns))]) ∧ ∃ q, w' = w.drewN q := by
  by_cases h0 : 0 < ns.length
  · obtain ⟨b, off, rfl, hc⟩ := hr h0
    have h := AnyG.slices_BinarySearch_int Tsh.lbs b off ns.length cap ns x w (Nat.le_refl _) (by omega) (fun j hj => by rw [hc j ns[j] (List.getElem?_eq_getElem hj)]; simp [List.getD, List.getElem?_eq_getElem hj]) (by rw [List.take_length]; exact hs)
    rw [List.take_length] at h
    refine Calls.mono h ?_
    rintro e w' ⟨e1, e2⟩
    refine ⟨((ns.countP (fun y => decide (y < x)) : Nat) : Int), ?_, e2⟩
    rw [e1, show ns.contains x = decide (x ∈ ns) by simp]
  · have e : ns = [] := List.eq_nil_of_length_eq_zero (by omega)
    subst e
    have hd : decide (x ∈ ([] : List Int)) = false := by simp
    rw [hd]
    have hg : ∀ (W : World), Calls Try.prog 45 #[.slice ao 0 cap, .int .i64 x] W fun e w' => e = .returned (.tuple #[.int .i64 0, .bool false]) ∧ ∃ q, w' = W.drewN q := fun W => by
      go_enter Try.func45, Try.ntmps45
      go_wp2
      go_loopw [7, 8] (fun s7 s8 wr => s7 = .int .i64 0 ∧ s8 = .int .i64 0 ∧ ∃ q, wr = W.drewN q) (fun s7 _ _ => 0)
      case atStart => exact ⟨rfl, rfl, 0, rfl⟩
      case round =>
        obtain ⟨rfl, rfl, q, rfl⟩ := hrel
        go_wp2_with fail
        (try go_quiet (fail))
        go_wp2
        go_ret2
        exact ⟨rfl, _, rfl⟩
    exact (hg w).mono (fun e w' ⟨e1, e2⟩ => ⟨0, e1, e2⟩)

set_option maxHeartbeats 1000000 in
/-- remove's function: is it one of the numbers? -/
theorem rm1_any (W : World) (nb : Nat) (ao : Option Addr) (cap : Nat) (ns : List Int) (hb : Bx W nb #[.slice ao ns.length cap] 28) (hr : RowE W ao ns) (hs : ns.Pairwise (· ≤ ·)) (hl : ns.length ≤ 1000000) (x : Int × Int) :
    Calls Try.prog 44 #[.agg (iC x).toArray, .pointer (some ⟨nb, 0, none⟩)] W fun e w' => e = .returned (.bool (decide (x.1 ∈ ns))) ∧ Below W.heap.size W w' := by
  obtain ⟨x1, x2⟩ := x
  have hal : Below W.heap.size W (W.alloc (.cells #[.int .i64 x1, .int .i64 x2] 55)) := (Below.refl _ W).alloc (Nat.le_refl _) _
  have c0 : (W.alloc (.cells #[.int .i64 x1, .int .i64 x2] 55)).cell? ⟨nb, 0, none⟩ = some (.slice ao ns.length cap) := (hb.bel hal).cell 0 _ rfl
  have HB := mkH (bs_any (W.alloc (.cells #[.int .i64 x1, .int .i64 x2] 55)) ao cap ns (hr.below hal) hs hl x1)
  have HAL := mkH hal
  clear hb hr hs hal
  obtain ⟨n, hn⟩ : ∃ n, n = ns.length := ⟨_, rfl⟩
  rw [← hn] at c0 HB
  obtain ⟨t, ht⟩ : ∃ t, t = decide (x1 ∈ ns) := ⟨_, rfl⟩
  rw [← ht] at HB
  show Calls Try.prog _ _ W fun e w' => e = .returned (.bool (decide (x1 ∈ ns))) ∧ _
  rw [← ht]
  clear hn ht
  show Calls Try.prog _ #[.agg #[.int .i64 x1, .int .i64 x2], .pointer (some ⟨nb, 0, none⟩)] W _
  go_enter Try.func44, Try.ntmps44
  go_wp2_with (go_at_call 45; refine HB.out.mono ?_; rintro e w1 ⟨k, rfl, q, rfl⟩)
  go_ret
  exact ⟨rfl, below_drewN HAL.out _⟩

theorem hmf : ∀ (fn : Fn) (first cap : Array Value) (w : World), (Instr.makeFunc fn first cap).run Try.prog w = .ok (.func fn first cap) w := fun _ _ _ _ => rfl
theorem load_b {w : World} {b : Nat} {v : Value} (h : w.cell? ⟨b, 0, none⟩ = some v) : (loadVar 4 ⟨b, 0, none⟩).run Try.prog w = .ok v w := by
  simp [loadVar, go_sem, h]
theorem idle_says (p : Addr) (w : World) : CallsD Try.prog 42 #[.pointer (some p)] .returning w fun e u' w' => e = .returned (.tuple #[]) ∧ u' = .returning ∧ w' = w := by
  refine callsD_of_wpS Try.func42 rfl fun c₀ cs hu => ?_
  apply wpS_seq
  apply wpS_region
  simp [wpOpsS, go_sem, recoverD, hu, Try.ntmps42, Exit.thenS]
  refine wpS_of_wp ?_
  simp only [Array.replicate_succ, Array.replicate_zero, List.push_toArray, List.append_toArray, List.nil_append, List.cons_append, List.setIfInBounds_toArray, List.set_cons_zero, List.set_cons_succ]
  go_wp2
  cases c₀
  simp_all [bodyPostS, results, Try.results42]

set_option maxHeartbeats 1000000 in
/-- says of a function that answers. -/
theorem says_any (g : Nat) (caps : Array Value) (eg : ∀ args w, (callFunc g args).run Try.prog w = .ok (.enter g args) w) (w : World) (x : Int) (t : Bool) (hU : ∀ W, Below w.heap.size w W → Calls Try.prog g (#[.int .i64 x] ++ caps) W fun e w' => e = .returned (.bool t) ∧ ∃ q, w' = W.drewN q) :
    Calls Try.prog 31 #[.func (.func g) #[] caps, .int .i64 x] w fun e w' => e = .returned (.bool t) ∧ Below w.heap.size w w' := by
  have hmf := hmf
  have hb1 : Below w.heap.size w (w.alloc (.cells #[.bool false] 4)) := (Below.refl _ w).alloc (Nat.le_refl _) _
  have HU := mkH (hU _ hb1)
  have HBX := mkH (Bx.new w #[.bool false] 4)
  have HB := mkH hb1
  clear hU hb1
  go_enter_defers Try.func31, Try.ntmps31
  go_wp2_with fail
  refine HU.out.mono ?_
  rintro e w1 ⟨rfl, q, rfl⟩
  have hbx : Bx ((w.alloc (.cells #[.bool false] 4)).drewN q) w.heap.size #[.bool false] 4 := HBX.out
  have HX2 := mkH (hbx.set 0 (.bool t))
  have HB2 : Hid (Below w.heap.size w (((w.alloc (.cells #[.bool false] 4)).drewN q).setCell ⟨w.heap.size, 0, none⟩ (.bool t))) := mkH ((below_drewN HB.out q).setCell (by simp) _)
  have c0 : (w.alloc (.cells #[.bool false] 4)).cell? ⟨w.heap.size, 0, none⟩ = some (.bool false) := HBX.out.cell 0 _ rfl
  have f0 := HBX.out.frozen 0
  clear hbx HBX HB HU
  go_wp2
  refine leaves_cons (f := 42) (args := #[.pointer (some ⟨w.heap.size, 0, none⟩)]) (by simp) (by simp [go_sem]) ?_
  refine (idle_says _ _).mono ?_
  rintro e u' w'' ⟨rfl, rfl, rfl⟩
  exact ⟨_, res_c rfl _ _ _ (b := ⟨w.heap.size, 0, none⟩) rfl (load_b (HX2.out.cell 0 _ rfl)), rfl, HB2.out⟩

set_option maxHeartbeats 1000000 in
/-- The law's function: is it the number modulo 3? -/
theorem plays1_any (W : World) (nb : Nat) (nn : Int) (hb : Bx W nb #[.int .i64 nn] 3) (x : Int) :
    Calls Try.prog 16 #[.int .i64 x, .pointer (some ⟨nb, 0, none⟩)] W fun e w' => e = .returned (.bool (decide (atM x 3 = nn))) ∧ ∃ q, w' = W.drewN q := by
  have c0 : W.cell? ⟨nb, 0, none⟩ = some (.int .i64 nn) := hb.cell 0 _ rfl
  have ha := at_any x 3 (by omega)
  generalize atM x 3 = r at *
  clear hb
  go_enter Try.func16, Try.ntmps16
  go_wp2_with fail
  go_quiet ((go_at_call 14; exact Calls.quiet_of_same (ha _)))
  go_wp2
  go_ret
  exact ⟨by rfl, _, rfl⟩
end Go.Proofs.Yteaempemdolcjaa.Nz
