/-
  An asker inside of a client: which packets answer it; ownReply of replies without lists.
-/
import Derived.Test.YtabckkepkennhaaFrB
namespace Go.Proofs.Ytabckkepkennhaa.Fr1
open Go.RowKit Kt Gf Gk Fp Fa Fb
open Go.Proofs.Ytabckkepkennhaa.Nm (Mc)
set_option linter.unusedVariables false
set_option linter.unusedSimpArgs false
set_option maxRecDepth 20000

/-- What of a packet counts. -/
structure Pv (pv : Array Value) (kd tt g cl nu er sq n : Int) (got dat abt : Value) (ce : Int) (cp : Value) : Prop where
  sz : pv.size = 40
  p0 : pv[0]? = some (.int .i64 kd)
  p2 : pv[2]? = some (.int .i64 tt)
  p3 : pv[3]? = some (.int .i64 g)
  p13 : pv[13]? = some (.int .i64 cl)
  p14 : pv[14]? = some (.int .i64 nu)
  p31 : pv[31]? = some (.int .i64 er)
  p32 : pv[32]? = some (.int .i64 sq)
  p33 : pv[33]? = some (.int .i64 n)
  p34 : pv[34]? = some got
  p35 : pv[35]? = some dat
  p36 : pv[36]? = some abt
  p37 : pv[37]? = some (.int .i64 ce)
  p38 : pv[38]? = some cp
theorem infoPk : (Try.prog.info? 42).map (·.size) = some 40 := by kernel_rfl
theorem load_pk {w : World} {b : Nat} {pv : Array Value} {t : TypeId} (h : Bx w b pv t) (hs : pv.size = 40) : (loadVar 42 ⟨b, 0, none⟩).run Try.prog w = .ok (.agg pv) w := load_bx (P := Try.prog) h Try.underlying42 rfl (by rw [hs]; exact infoPk)
def ansB (a : As) (kd tt g cl nu : Int) : Bool := decide (kd = 3 ∧ tt = -a.id ∧ g = a.group ∧ cl = a.id ∧ nu = a.c.num)
set_option maxHeartbeats 2000000 in
theorem isAnswered_any {w : World} {B : Nat} {mv : Value} {a : As} {k : Kl} (h : Bx w B (Xc k a mv) 57) (hid : 1 ≤ a.id ∧ a.id ≤ 1099511627776) {pv : Array Value} {kd tt g cl nu er sq n ce : Int} {got dat abt cp : Value} (hp : Pv pv kd tt g cl nu er sq n got dat abt ce cp) :
    Calls Try.prog 36 #[.pointer (some ⟨B, 0, none⟩), .agg pv] w fun x w' => x = .returned (.bool (ansB a kd tt g cl nu)) ∧ Below w.heap.size w w' := by
  obtain ⟨V, hV⟩ : ∃ V, V = w.alloc (.cells pv 42) := ⟨_, rfl⟩
  have hb1 : Below w.heap.size w V := by rw [hV]; exact (Below.refl _ w).alloc (Nat.le_refl _) _
  have hx1 : Bx V w.heap.size pv 42 := by rw [hV]; exact Bx.new _ _ _
  have h1 := h.bel hb1
  have c0 : V.cell? ⟨B, 0, none⟩ = some (.int .i64 a.id) := h1.cell 0 _ rfl
  have c3 : V.cell? ⟨B, 3, none⟩ = some (.int .i64 a.group) := h1.cell 3 _ rfl
  have c6 : V.cell? ⟨B, 6, none⟩ = some (.int .i64 a.c.num) := h1.cell 6 _ rfl
  have x0 : V.cell? ⟨w.heap.size, 0, none⟩ = some (.int .i64 kd) := hx1.cell 0 _ hp.p0
  have x2 : V.cell? ⟨w.heap.size, 2, none⟩ = some (.int .i64 tt) := hx1.cell 2 _ hp.p2
  have x3 : V.cell? ⟨w.heap.size, 3, none⟩ = some (.int .i64 g) := hx1.cell 3 _ hp.p3
  have x13 : V.cell? ⟨w.heap.size, 13, none⟩ = some (.int .i64 cl) := hx1.cell 13 _ hp.p13
  have x14 : V.cell? ⟨w.heap.size, 14, none⟩ = some (.int .i64 nu) := hx1.cell 14 _ hp.p14
  have hw : IntKind.i64.wrap (-a.id) = -a.id := by rw [IntKind.wrap_i64]; omega
  have HB := mkH hb1
  have HV := mkH hV
  clear h hb1 hx1 h1 hp hV
  unfold ansB
  generalize a.id = i at *
  generalize a.group = gr at *
  generalize a.c.num = nm at *
  by_cases h1 : kd = 3
  · by_cases h2 : tt = -i
    · by_cases h3 : g = gr
      · by_cases h4 : cl = i
        · by_cases h5 : nu = nm
          · rw [show decide (kd = 3 ∧ tt = -i ∧ g = gr ∧ cl = i ∧ nu = nm) = true from decide_eq_true ⟨h1, h2, h3, h4, h5⟩]
            subst h1 h3 h5
            rw [h2] at x2
            rw [h4] at x13
            clear h2 h4
            go_enter Try.func36, Try.ntmps36
            go_upto_region 1 with fail
            rw [show w.alloc (.cells pv 42) = V from HV.out.symm]
            go_quiet (fail)
            go_wp2
            go_ret
            exact ⟨rfl, Gf.below_drewN HB.out _⟩
          · rw [show decide (kd = 3 ∧ tt = -i ∧ g = gr ∧ cl = i ∧ nu = nm) = false from decide_eq_false (fun e => h5 e.2.2.2.2)]
            have hb : (nu == nm) = false := by simpa using h5
            subst h1 h3
            rw [h2] at x2
            rw [h4] at x13
            clear h2 h4 h5
            go_enter Try.func36, Try.ntmps36
            go_upto_region 1 with fail
            rw [show w.alloc (.cells pv 42) = V from HV.out.symm]
            go_quiet (fail)
            go_wp2
            go_ret
            exact ⟨rfl, Gf.below_drewN HB.out _⟩
        · rw [show decide (kd = 3 ∧ tt = -i ∧ g = gr ∧ cl = i ∧ nu = nm) = false from decide_eq_false (fun e => h4 e.2.2.2.1)]
          have hb : (cl == i) = false := by simpa using h4
          subst h1 h3
          rw [h2] at x2
          clear h2 h4
          go_enter Try.func36, Try.ntmps36
          go_upto_region 1 with fail
          rw [show w.alloc (.cells pv 42) = V from HV.out.symm]
          go_quiet (fail)
          go_wp2
          go_ret
          exact ⟨rfl, Gf.below_drewN HB.out _⟩
      · rw [show decide (kd = 3 ∧ tt = -i ∧ g = gr ∧ cl = i ∧ nu = nm) = false from decide_eq_false (fun e => h3 e.2.2.1)]
        have hb : (g == gr) = false := by simpa using h3
        subst h1
        rw [h2] at x2
        clear h2 h3
        go_enter Try.func36, Try.ntmps36
        go_upto_region 1 with fail
        rw [show w.alloc (.cells pv 42) = V from HV.out.symm]
        go_quiet (fail)
        go_wp2
        go_ret
        exact ⟨rfl, Gf.below_drewN HB.out _⟩
    · rw [show decide (kd = 3 ∧ tt = -i ∧ g = gr ∧ cl = i ∧ nu = nm) = false from decide_eq_false (fun e => h2 e.2.1)]
      have hb : (tt == -i) = false := by simpa using h2
      subst h1
      clear h2
      go_enter Try.func36, Try.ntmps36
      go_upto_region 1 with fail
      rw [show w.alloc (.cells pv 42) = V from HV.out.symm]
      go_quiet (fail)
      go_wp2
      go_ret
      exact ⟨rfl, Gf.below_drewN HB.out _⟩
  · rw [show decide (kd = 3 ∧ tt = -i ∧ g = gr ∧ cl = i ∧ nu = nm) = false from decide_eq_false (fun e => h1 e.1)]
    have hb : (kd == 3) = false := by simpa using h1
    clear h1
    go_enter Try.func36, Try.ntmps36
    go_upto_region 1 with fail
    rw [show w.alloc (.cells pv 42) = V from HV.out.symm]
    go_quiet (fail)
    go_wp2
    go_ret
    exact ⟨rfl, Gf.below_drewN HB.out _⟩
end Go.Proofs.Ytabckkepkennhaa.Fr1
