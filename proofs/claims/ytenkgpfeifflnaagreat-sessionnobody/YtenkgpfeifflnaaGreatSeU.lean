/-
  Tables that New did not make.
-/
import Derived.Test.YtenkgpfeifflnaaGreatSeO
namespace Go.Proofs.YtenkgpfeifflnaaGreat.Su
open Go.RowKit Kt Pl Wi Wk Wa Sm Sa Sb Sc Sd Sl
open Dk (Fr Nx)
open At (RowT)
set_option linter.unusedVariables false
set_option linter.unusedSimpArgs false
set_option maxRecDepth 20000

/-- What New did not make. -/
def Un (w : World) (v : Value) : Prop := v = .pointer none ∨ ∃ T, v = .pointer (some ⟨T, 0, none⟩) ∧ Bx w T #[.map none] 62
theorem Un.below {w w' : World} {v : Value} (h : Un w v) (hb : Below w.heap.size w w') : Un w' v := by
  rcases h with h | ⟨T, e, h⟩
  · exact .inl h
  · exact .inr ⟨T, e, bx_bel h hb⟩
theorem isMade_un {w : World} {v : Value} (h : Un w v) : Calls Tryz.prog 26 #[v] w fun e w' => e = .returned (.bool false) ∧ w' = w := by
  rcases h with rfl | ⟨T, rfl, h⟩
  · exact isMade_nil w
  · exact isMade_zero h
theorem look_un {w : World} {v : Value} (h : Un w v) (c n : Int) : Calls Tryz.prog 13 #[v, .int .i64 c, .int .i64 n] w fun e w' => e = .returned (.tuple #[.agg ZP, .bool false, .int .i64 1]) ∧ Below w.heap.size w w' := by
  have HU := mkH h
  clear h
  go_enter Tryz.func13, Tryz.ntmps13
  go_wp2_with fail
  refine start1c (cs := ZP) (fun W0 hB hG hsz => ?_)
  have HB := mkH hB
  have HG := mkH hG
  have HU0 := mkH (HU.out.below hG)
  clear hB hG hsz HU
  go_wp2_with (first
    | (go_at_call 26; refine (isMade_un HU0.out).mono ?_; rintro e1 w1 ⟨rfl, h⟩; have h2 := h.symm; clear h; subst h2)
    | (refine wpList_st rfl (ty := 34) (x := .tmp 6) (y := .tmp 14) (cs := ZP) rfl rfl rfl HB.out infoZ rfl one_ZP ?_))
  refine ret_ctt 6 7 8 34 rfl w.heap.size rfl rfl rfl (load_bx (P := Tryz.prog) (HB.out.row rfl) Tryz.underlying34 rfl infoZ) rfl ?_
  exact ⟨rfl, bel_setRow HG.out (Nat.le_refl _) _⟩
theorem note_un {w : World} {v : Value} (h : Un w v) (c n : Int) (cs : Array Value) : Calls Tryz.prog 8 #[v, .int .i64 c, .int .i64 n, .agg cs] w fun e w' => e = .returned (.int .i64 1) ∧ Below w.heap.size w w' := by
  have HB : Hid (Below w.heap.size w (w.alloc (.cells cs 34))) := mkH ((Below.refl _ w).alloc (Nat.le_refl _) _)
  have HU := mkH (h.below HB.out)
  clear h
  go_enter Tryz.func8, Tryz.ntmps8
  go_wp2_with (first
    | (go_at_call 26; refine (isMade_un HU.out).mono ?_; rintro e1 w1 ⟨rfl, h⟩; have h2 := h.symm; clear h; subst h2))
  go_ret
  exact ⟨rfl, HB.out⟩
theorem last_un {w : World} {v : Value} (h : Un w v) (c : Int) : Calls Tryz.prog 16 #[v, .int .i64 c] w fun e w' => e = .returned (.int .i64 0) ∧ w' = w := by
  have HU := mkH h
  clear h
  go_enter Tryz.func16, Tryz.ntmps16
  go_wp2_with (first
    | (go_at_call 26; refine (isMade_un HU.out).mono ?_; rintro e1 w1 ⟨rfl, h⟩; have h2 := h.symm; clear h; subst h2))
  go_ret
  exact ⟨rfl, rfl⟩
theorem clients_un {w : World} {v : Value} (h : Un w v) : Calls Tryz.prog 19 #[v] w fun e w' => e = .returned (.slice none 0 0) ∧ w' = w := by
  have HU := mkH h
  clear h
  go_enter Tryz.func19, Tryz.ntmps19
  go_wp2_with (first
    | (go_at_call 26; refine (isMade_un HU.out).mono ?_; rintro e1 w1 ⟨rfl, h⟩; have h2 := h.symm; clear h; subst h2))
  go_ret
  exact ⟨rfl, rfl⟩

theorem merge_un {w : World} {v : Value} (h : Un w v) (x : Value) : Calls Tryz.prog 10 #[v, x] w fun e w' => e = .returned (.int .i64 1) ∧ w' = w := by
  have HU := mkH h
  clear h
  go_enter Tryz.func10, Tryz.ntmps10
  go_wp2_with (first
    | (go_at_call 26; refine (isMade_un HU.out).mono ?_; rintro e1 w1 ⟨rfl, h⟩; have h2 := h.symm; clear h; subst h2))
  go_ret
  exact ⟨rfl, rfl⟩

theorem texts_un {w : World} {v : Value} (h : Un w v) (g : Nat) : Calls Tryz.prog 40 #[v, .func (.func g) #[] #[]] w fun e w' => e = .returned (.slice none 0 0) ∧ Below w.heap.size w w' := by
  have HU := mkH h
  clear h
  go_enter Tryz.func40, Tryz.ntmps40
  go_wp2_with (first
    | (go_at_call 26; refine (isMade_un (HU.out.below ((Below.refl _ w).alloc (Nat.le_refl _) _))).mono ?_; rintro e1 w1 ⟨rfl, h⟩; have h2 := h.symm; clear h; subst h2))
  go_ret
  exact ⟨rfl, (Below.refl _ w).alloc (Nat.le_refl _) _⟩

theorem dump_un {w : World} {v : Value} (h : Un w v) : Calls Tryz.prog 21 #[v] w fun e w' => e = .returned (.slice none 0 0) ∧ Below w.heap.size w w' := by
  have HU := mkH h
  clear h
  go_enter Tryz.func21, Tryz.ntmps21
  go_wp2_with (first
    | (go_at_call 40; refine (texts_un HU.out _).mono ?_; rintro e1 w1 ⟨rfl, hb⟩; have HB := mkH hb; clear hb))
  go_ret
  exact ⟨rfl, HB.out⟩

theorem all_un {w : World} {v : Value} (h : Un w v) : Calls Tryz.prog 22 #[v] w fun e w' => e = .returned (.slice none 0 0) ∧ Below w.heap.size w w' := by
  have HU := mkH h
  clear h
  go_enter Tryz.func22, Tryz.ntmps22
  go_wp2_with (first
    | (go_at_call 40; refine (texts_un HU.out _).mono ?_; rintro e1 w1 ⟨rfl, hb⟩; have HB := mkH hb; clear hb))
  go_ret
  exact ⟨rfl, HB.out⟩

theorem copy_un {w : World} {v : Value} (h : Un w v) : Calls Tryz.prog 12 #[v] w fun e w' => e = .returned (.pointer none) ∧ w' = w := by
  have HU := mkH h
  clear h
  go_enter Tryz.func12, Tryz.ntmps12
  go_wp2_with (first
    | (go_at_call 26; refine (isMade_un HU.out).mono ?_; rintro e1 w1 ⟨rfl, h⟩; have h2 := h.symm; clear h; subst h2))
  go_ret
  exact ⟨rfl, rfl⟩
end Go.Proofs.YtenkgpfeifflnaaGreat.Su
