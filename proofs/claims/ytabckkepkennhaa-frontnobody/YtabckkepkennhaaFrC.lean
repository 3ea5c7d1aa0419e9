/-
  A client's plain state; NewAsker, New, isMade, Busy, isOfShards. Written by gen_frc.py.
-/
import Derived.Test.YtabckkepkennhaaFrB
namespace Go.Proofs.Ytabckkepkennhaa.Fc
open Go.RowKit Kt Gf Gk Fp Fa Fb
open Go.Proofs.Ytabckkepkennhaa.Nm (Mc)
set_option linter.unusedVariables false
set_option linter.unusedSimpArgs false
set_option maxRecDepth 20000

/-- What a client has beside its asker. -/
structure Ks where
  kind : Int
  queue : Int
  mx : Int
  secs : Int
  att : ByteArray
  ent : Value
  busy : Bool
  shs : Value
  reps : Value
  ep : Int
  pcs : Value
  wants : Bool
  mapper : Int
def kl (s : Ks) : Kl := ⟨.int .i64 s.kind, .int .i64 s.queue, .int .i64 s.mx, .int .i64 s.secs, .string s.att, s.ent, .bool s.busy, s.shs, s.reps, .int .i64 s.ep, s.pcs, .bool s.wants, .int .i64 s.mapper⟩
def kz : Ks := ⟨0, 0, 0, 0, .empty, .slice none 0 0, false, .slice none 0 0, .slice none 0 0, 0, .slice none 0 0, false, 0⟩
def As.new (id nodes retry : Int) : As := ⟨id, nodes, retry, 0, Cm.none, false, false, 0⟩
theorem infoA : (Try.prog.info? 53).map (·.size) = some 27 := by kernel_rfl
theorem load_a {w : World} {b : Nat} {id nodes retry : Int} {m : Nat} {t : TypeId} (h : Bx w b (Xa (As.new id nodes retry) (.map (some m))) t) : (loadVar 53 ⟨b, 0, none⟩).run Try.prog w = .ok (.agg #[.int .i64 id, .int .i64 nodes, .int .i64 retry, .int .i64 0, .int .i64 0, .int .i64 0, .int .i64 0, .int .i64 0, .int .i64 0, .string .empty, .string .empty, .string .empty, .string .empty, .int .i64 0, .int .i64 0, .int .i64 0, .string .empty, .int .i64 0, .int .i64 0, .int .i64 0, .int .i64 0, .int .i64 0, .slice none 0 0, .bool false, .bool false, .int .i64 0, .map (some m)]) w := load_bx (P := Try.prog) h Try.underlying53 rfl infoA
/-- What NewAsker takes. -/
def okN (id nodes retry : Int) : Prop := (1 ≤ id ∧ id ≤ 1099511627776) ∧ (1 ≤ nodes ∧ nodes ≤ 5) ∧ (1 ≤ retry ∧ retry ≤ 1000)
theorem NewAsker_ok (w : World) (id nodes retry : Int) (h : okN id nodes retry) : Calls Try.prog 25 #[.int .i64 id, .int .i64 nodes, .int .i64 retry] w fun x w' => ∃ b m, x = .returned (.tuple #[.pointer (some ⟨b, 0, none⟩), .int .i64 0]) ∧
    Bx w' b (Xa (As.new id nodes retry) (.map (some m))) 53 ∧ Mc w' m 0 (fun _ => 0) ∧ w.heap.size ≤ m ∧ w.heap.size ≤ b ∧ Below w.heap.size w w' := by
  obtain ⟨⟨h1, h2⟩, ⟨h3, h4⟩, h5, h6⟩ := h
  have hmm := @run_makeMap Try.prog
  go_enter Try.func25, Try.ntmps25
  go_wp2
  go_ret2
  refine ⟨w.heap.size + 1, w.heap.size, rfl, Bx.new1 _ _ _ _, (Go.Proofs.Ytabckkepkennhaa.Nm.Mc.made w).below ((Below.refl _ _).alloc (Nat.le_refl _) _), Nat.le_refl _, Nat.le_succ _, ((Below.refl _ w).alloc (Nat.le_refl _) _).alloc (by simp) _⟩
theorem New_ok (w : World) (id nodes retry : Int) (h : okN id nodes retry) : Calls Try.prog 6 #[.int .i64 id, .int .i64 nodes, .int .i64 retry] w fun x w' => ∃ b m, x = .returned (.tuple #[.pointer (some ⟨b, 0, none⟩), .int .i64 0]) ∧
    Bx w' b (Xc (kl kz) (As.new id nodes retry) (.map (some m))) 57 ∧ Mc w' m 0 (fun _ => 0) ∧ w.heap.size ≤ m ∧ w.heap.size ≤ b ∧ Below w.heap.size w w' := by
  have HN := mkH (NewAsker_ok w id nodes retry h)
  clear h
  go_enter Try.func6, Try.ntmps6
  go_wp2_with (first
    | (refine HN.out.mono ?_; rintro x w1 ⟨b, m, rfl, hx, hm, l1, l2, hb⟩; have HX := mkH hx; have HM := mkH hm; have HL := mkH (And.intro l1 l2); have HB := mkH hb; clear hx hm l1 l2 hb)
    | (refine Gk.wpList_ld (ty := 53) (x := .tmp 21) (p := ⟨b, 0, none⟩) (v := .agg #[.int .i64 id, .int .i64 nodes, .int .i64 retry, .int .i64 0, .int .i64 0, .int .i64 0, .int .i64 0, .int .i64 0, .int .i64 0, .string .empty, .string .empty, .string .empty, .string .empty, .int .i64 0, .int .i64 0, .int .i64 0, .string .empty, .int .i64 0, .int .i64 0, .int .i64 0, .int .i64 0, .int .i64 0, .slice none 0 0, .bool false, .bool false, .int .i64 0, .map (some m)]) rfl rfl rfl (load_a HX.out) ?_))
  go_ret2
  obtain ⟨l1, l2⟩ := HL.out
  have hb8 := HB.out.alloc HB.out.size (.cells (Xc (kl kz) (As.new id nodes retry) (.map (some m))) 57)
  exact ⟨w1.heap.size, m, rfl, Bx.new _ _ _, HM.out.below ((Below.refl _ _).alloc (Nat.le_refl _) _), l1, HB.out.size, hb8⟩
theorem isMadeC_any {w : World} {B m : Nat} {a : As} {k : Kl} (h : Bx w B (Xc k a (.map (some m))) 57) :
    Calls Try.prog 26 #[.pointer (some ⟨B, 0, none⟩)] w fun x w' => x = .returned (.bool true) ∧ w' = w := by
  have HM := mkH (isMade_any h)
  clear h
  go_enter Try.func26, Try.ntmps26
  go_wp2_with (refine HM.out.mono ?_; rintro x w1 ⟨rfl, rfl⟩)
  go_ret
  exact ⟨rfl, rfl⟩
theorem BusyC_any {w : World} {B m : Nat} {a : As} {s : Ks} (h : Bx w B (Xc (kl s) a (.map (some m))) 57) :
    Calls Try.prog 11 #[.pointer (some ⟨B, 0, none⟩)] w fun x w' => x = .returned (.bool s.busy) ∧ w' = w := by
  have c33 : w.cell? ⟨B, 33, none⟩ = some (.bool s.busy) := h.cell 33 _ rfl
  have HM := mkH (isMadeC_any h)
  clear h
  go_enter Try.func11, Try.ntmps11
  go_wp2_with (refine HM.out.mono ?_; rintro x w1 ⟨rfl, rfl⟩)
  go_ret
  exact ⟨rfl, rfl⟩
def ofSh (k : Int) : Bool := decide (k = 2 ∨ k = 5)
theorem isOfShards_any (w : World) (k : Int) : Calls Try.prog 30 #[.int .i64 k] w fun x w' => x = .returned (.bool (ofSh k)) ∧ w' = w := by
  unfold ofSh
  by_cases h2 : k = 2
  · rw [show decide (k = 2 ∨ k = 5) = true from decide_eq_true (.inl h2)]
    subst h2
    go_enter Try.func30, Try.ntmps30
    go_wp2
    go_ret
    exact ⟨rfl, rfl⟩
  · have hb2 : (k == 2) = false := by simpa using h2
    by_cases h5 : k = 5
    · rw [show decide (k = 2 ∨ k = 5) = true from decide_eq_true (.inr h5)]
      subst h5
      go_enter Try.func30, Try.ntmps30
      go_wp2
      go_ret
      exact ⟨rfl, rfl⟩
    · have hb5 : (k == 5) = false := by simpa using h5
      rw [show decide (k = 2 ∨ k = 5) = false from decide_eq_false (fun h => h.elim h2 h5)]
      clear h2 h5
      go_enter Try.func30, Try.ntmps30
      go_wp2
      go_ret
      exact ⟨rfl, rfl⟩
end Go.Proofs.Ytabckkepkennhaa.Fc
