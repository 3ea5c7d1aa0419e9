/-
  What a disk is in memory, and the small functions of disk: isMade, trouble, keepAll, leave, Size, Down, New, fresh.
-/
import Derived.Test.YthmedpabgblddabGreatDoorDiK
namespace Go.Proofs.YthmedpabgblddabGreatDoor.Da
open Go.RowKit Kt Dk Dp
set_option linter.unusedVariables false
set_option maxRecDepth 20000

theorem info5 : (Tryz.prog.info? 5).map (fun i => (i.zero, i.size, i.bytes)) = some (some (.int .u8 0), 1, 1) := by kernel_rfl
theorem size5 : (Tryz.prog.info? 5).map (·.size) = some 1 := by kernel_rfl

/-- Block D is a disk's: is it down, its bytes 'bs', how many are kept 'n', its slice 'v'. -/
structure Raw (w : World) (F : Nat → Prop) (D : Nat) (down : Bool) (bs : List UInt8) (n : Nat) (v : Value) : Prop where
  lt : ∀ k, F k → k < w.heap.size
  own : F D
  heap : w.heap[D]? = some (.cells #[.bool true, .bool down, v, .int .i64 (n : Int)] 77 (0, 0))
  row : Ow w F D 5 v bs
  len : bs.length ≤ 4194304
section
variable {w : World} {F : Nat → Prop} {D : Nat} {down : Bool} {bs : List UInt8} {n : Nat} {v : Value}
theorem Raw.c0 (h : Raw w F D down bs n v) : w.cell? ⟨D, 0, none⟩ = some (.bool true) := by rw [cell_of_row _ _ _ _ _ _ h.heap]; rfl
theorem Raw.c1 (h : Raw w F D down bs n v) : w.cell? ⟨D, 1, none⟩ = some (.bool down) := by rw [cell_of_row _ _ _ _ _ _ h.heap]; rfl
theorem Raw.c2 (h : Raw w F D down bs n v) : w.cell? ⟨D, 2, none⟩ = some v := by rw [cell_of_row _ _ _ _ _ _ h.heap]; rfl
theorem Raw.c3 (h : Raw w F D down bs n v) : w.cell? ⟨D, 3, none⟩ = some (.int .i64 (n : Int)) := by rw [cell_of_row _ _ _ _ _ _ h.heap]; rfl
theorem Raw.fz (h : Raw w F D down bs n v) (k : Nat) : w.frozen? ⟨D, k, none⟩ = false := frozen_of_row w D k _ _ h.heap
theorem Raw.dlt (h : Raw w F D down bs n v) : D < w.heap.size := block_lt h.heap
theorem Raw.kept {w' : World} (h : Raw w F D down bs n v) (hs : w.heap.size ≤ w'.heap.size) (hk : ∀ k, F k → w'.heap[k]? = w.heap[k]?) : Raw w' F D down bs n v :=
  ⟨fun k hf => Nat.lt_of_lt_of_le (h.lt k hf) hs, h.own, by rw [hk D h.own]; exact h.heap, h.row.kept (fun k hf _ => hk k hf), h.len⟩
theorem Raw.below {w' : World} (h : Raw w F D down bs n v) (hb : Below w.heap.size w w') : Raw w' F D down bs n v := h.kept hb.size (fun k hf => hb.block k (h.lt k hf))
theorem fr_set (h : Raw w F D down bs n v) (i : Nat) (u : Value) : Fr (fun k => k = D) w (w.setCell ⟨D, i, none⟩ u) := by
  rw [setCell_eq_setRow w D i _ _ (0, 0) _ h.heap]
  exact (Fr.refl (fun k => k = D) w).setRow (b := D) (.inl rfl) _
theorem Raw.setDown (h : Raw w F D down bs n v) (d : Bool) : Raw (w.setCell ⟨D, 1, none⟩ (.bool d)) F D d bs n v := by
  rw [setCell_eq_setRow w D 1 _ _ (0, 0) _ h.heap]
  exact ⟨fun k hf => by rw [setRow_size]; exact h.lt k hf, h.own, setRow_heap _ _ _ _ _ _ h.heap, h.row.kept (fun k _ hn => setRow_other _ _ _ _ (fun e => hn e)), h.len⟩
theorem Raw.setKept (h : Raw w F D down bs n v) (m : Nat) : Raw (w.setCell ⟨D, 3, none⟩ (.int .i64 (m : Int))) F D down bs m v := by
  rw [setCell_eq_setRow w D 3 _ _ (0, 0) _ h.heap]
  exact ⟨fun k hf => by rw [setRow_size]; exact h.lt k hf, h.own, setRow_heap _ _ _ _ _ _ h.heap, h.row.kept (fun k _ hn => setRow_other _ _ _ _ (fun e => hn e)), h.len⟩
theorem raw_mk {v2 : Value} {bs2 : List UInt8} (lt : ∀ k, F k → k < w.heap.size) (own : F D) (heap : w.heap[D]? = some (.cells #[.bool true, .bool down, v, .int .i64 (n : Int)] 77 (0, 0))) (hr : Ow w F D 5 v2 bs2) (hl : bs2.length ≤ 4194304) : Raw (w.setCell ⟨D, 2, none⟩ v2) F D down bs2 n v2 := by
  rw [setCell_eq_setRow w D 2 _ _ (0, 0) _ heap]
  exact ⟨fun k hf => by rw [setRow_size]; exact lt k hf, own, setRow_heap _ _ _ _ _ _ heap, hr.kept (fun k _ hn => setRow_other _ _ _ _ (fun e => hn e)), hl⟩
theorem fr_cell (heap : w.heap[D]? = some (.cells #[.bool true, .bool down, v, .int .i64 (n : Int)] 77 (0, 0))) (i : Nat) (u : Value) : Fr (fun k => k = D) w (w.setCell ⟨D, i, none⟩ u) := by
  rw [setCell_eq_setRow w D i _ _ (0, 0) _ heap]
  exact (Fr.refl (fun k => k = D) w).setRow (b := D) (.inl rfl) _
theorem Raw.setAll {v2 : Value} {bs2 : List UInt8} (h : Raw w F D down bs n v) (hr : Ow w F D 5 v2 bs2) (hl : bs2.length ≤ 4194304) : Raw (w.setCell ⟨D, 2, none⟩ v2) F D down bs2 n v2 := by
  rw [setCell_eq_setRow w D 2 _ _ (0, 0) _ h.heap]
  exact ⟨fun k hf => by rw [setRow_size]; exact h.lt k hf, h.own, setRow_heap _ _ _ _ _ _ h.heap, hr.kept (fun k _ hn => setRow_other _ _ _ _ (fun e => hn e)), hl⟩
end

/-- Block D is a disk that has this. -/
def Ds (w : World) (F : Nat → Prop) (D : Nat) (s : St) : Prop := ∃ v, Raw w F D s.down (s.kept ++ s.rest) s.kept.length v
theorem Ds.below {w w' : World} {F : Nat → Prop} {D : Nat} {s : St} (h : Ds w F D s) (hb : Below w.heap.size w w') : Ds w' F D s := by
  obtain ⟨v, h⟩ := h; exact ⟨v, h.below hb⟩
theorem Ds.lt {w : World} {F : Nat → Prop} {D : Nat} {s : St} (h : Ds w F D s) : ∀ k, F k → k < w.heap.size := by obtain ⟨v, h⟩ := h; exact h.lt
theorem Ds.len {w : World} {F : Nat → Prop} {D : Nat} {s : St} (h : Ds w F D s) : s.kept.length + s.rest.length ≤ 4194304 := by obtain ⟨v, h⟩ := h; have := h.len; rwa [List.length_append] at this
/-- What turns elsewhere. -/
theorem Ds.fr {w w' : World} {F G : Nat → Prop} {D : Nat} {s : St} (h : Ds w F D s) (hf : Fr G w w') (hd : ∀ k, F k → ¬ G k) : Ds w' F D s := by
  obtain ⟨v, h⟩ := h
  exact ⟨v, h.kept hf.size (fun k hk => hf.heap (h.lt k hk) (hd k hk))⟩

theorem isMade_any (w : World) (b : Nat) (h : w.cell? ⟨b, 0, none⟩ = some (.bool true)) :
    Calls Tryz.prog 51 #[.pointer (some ⟨b, 0, none⟩)] w fun e w' => e = .returned (.bool true) ∧ w' = w := by
  go_enter Tryz.func51, Tryz.ntmps51
  go_wp2
  go_ret
  exact ⟨rfl, rfl⟩

theorem isMade_not (w : World) (b : Nat) (h : w.cell? ⟨b, 0, none⟩ = some (.bool false)) :
    Calls Tryz.prog 51 #[.pointer (some ⟨b, 0, none⟩)] w fun e w' => e = .returned (.bool false) ∧ w' = w := by
  go_enter Tryz.func51, Tryz.ntmps51
  go_wp2
  go_ret
  exact ⟨rfl, rfl⟩

theorem isMade_nil (w : World) :
    Calls Tryz.prog 51 #[.pointer none] w fun e w' => e = .returned (.bool false) ∧ w' = w := by
  go_enter Tryz.func51, Tryz.ntmps51
  go_wp2
  go_ret
  exact ⟨rfl, rfl⟩

theorem trouble_any (w : World) (b : Nat) (d : Bool) (h : w.cell? ⟨b, 0, none⟩ = some (.bool true)) (h1 : w.cell? ⟨b, 1, none⟩ = some (.bool d)) :
    Calls Tryz.prog 44 #[.pointer (some ⟨b, 0, none⟩)] w fun e w' => e = .returned (.int .i64 (if d then 10 else 0)) ∧ w' = w := by
  go_enter Tryz.func44, Tryz.ntmps44
  go_wp2_with fail
  refine (isMade_any w b h).mono ?_
  rintro e w1 ⟨rfl, hw⟩
  have hw2 := hw.symm
  subst hw2
  cases d
  · go_wp2
    go_ret
    exact ⟨rfl, rfl⟩
  · go_wp2
    go_ret
    exact ⟨rfl, rfl⟩

theorem keepAll_any {w : World} {F : Nat → Prop} {D : Nat} {down : Bool} {bs : List UInt8} {n : Nat} {v : Value} (h : Raw w F D down bs n v) :
    Calls Tryz.prog 52 #[.pointer (some ⟨D, 0, none⟩)] w fun e w' => (∃ u, e = .returned u) ∧ Raw w' F D down bs bs.length v ∧ Fr (fun k => k = D) w w' := by
  obtain ⟨ao, cap, hv, -⟩ := h.row.form
  have c2 := h.c2
  have f3 := h.fz 3
  have c3 := h.c3
  subst hv
  have H := mkH h
  clear h
  go_enter Tryz.func52, Tryz.ntmps52
  go_wp2
  refine bodyPost_end (results_none rfl _ _ _) rfl ?_
  exact ⟨⟨_, rfl⟩, H.out.setKept _, fr_set H.out 3 _⟩

theorem run_cut3 {w : World} {F : Nat → Prop} {D : Nat} {ao : Option Addr} {l cap : Nat} {bs : List UInt8} (h : Ow w F D 5 (.slice ao l cap) bs) (m : Nat) (hm : m ≤ bs.length) (W : World) :
    (Instr.slice 30 (.slice ao l cap) none (some (.int .i64 (m : Int))) (some (.int .i64 (m : Int)))).run Tryz.prog W = .ok (.slice ao m m) W := by
  obtain ⟨a2, c2, he, hl, hc, -, hao⟩ := h.form
  simp only [Value.slice.injEq] at he
  obtain ⟨rfl, rfl, rfl⟩ := he
  have b1 : ∀ c, (Instr.sliceBound (.int .i64 (m : Int)) cap c).run Tryz.prog W = .ok m W := fun c => by
    have h1 : ((m : Nat) : Int) ≤ (cap : Int) := by omega
    have h1 : m ≤ cap := by omega
    simp [Instr.sliceBound, asIntOf, h1]
  have b2 : ∀ c, (Instr.sliceBound (.int .i64 (m : Int)) m c).run Tryz.prog W = .ok m W := fun c => by
    simp [Instr.sliceBound, asIntOf]
  obtain ⟨i, hi, hz, hs, hby⟩ := info_parts info5
  have e : (if m = 0 then ao else Option.map (fun x => x.add (0 * i.size)) ao) = ao := by
    rcases hao with rfl | ⟨g, rfl⟩
    · split <;> rfl
    · split
      · rfl
      · simp [Addr.add]
  have hsz : (sizeOf 5).run Tryz.prog W = .ok i.size W := by simp [sizeOf, typeInfo, hi]
  simp only [Instr.slice, Sem.run_bind, run_underlying Tryz.underlying30, Instr.sliceBounds, Result.andThen_ok, b1, b2, Sem.run_pure, hsz]
  rw [e]
  rfl

theorem leave_any {w : World} {F : Nat → Prop} {D : Nat} {down : Bool} {bs : List UInt8} {n : Nat} {v : Value} (h : Raw w F D down bs n v) (m : Nat) (hm : m ≤ bs.length) :
    Calls Tryz.prog 47 #[.pointer (some ⟨D, 0, none⟩), .int .i64 (m : Int)] w fun e w' => (∃ u, e = .returned u) ∧ (∃ v', Raw w' F D down (bs.take m) n v') ∧ Fr (fun k => k = D) w w' := by
  obtain ⟨ao, cap, hv, -⟩ := h.row.form
  have c2 := h.c2
  have f2 := h.fz 2
  subst hv
  have hcut := run_cut3 h.row m hm
  have H := mkH h
  have HM := mkH hm
  clear h hm
  go_enter Tryz.func47, Tryz.ntmps47
  go_wp2
  refine bodyPost_end (results_none rfl _ _ _) rfl ?_
  exact ⟨⟨_, rfl⟩, ⟨_, H.out.setAll (H.out.row.take m HM.out) (by have := H.out.len; rw [List.length_take]; omega)⟩, fr_set H.out 2 _⟩

theorem new_any (w : World) : Calls Tryz.prog 35 #[] w fun e w' => e = .returned (.pointer (some ⟨w.heap.size, 0, none⟩)) ∧ Ds w' (fun k => k = w.heap.size) w.heap.size Dp.new ∧ Below w.heap.size w w' := by
  go_enter Tryz.func35, Tryz.ntmps35
  go_wp2
  go_ret
  refine ⟨rfl, ⟨.slice none 0 0, ?_, rfl, ?_, .inl ⟨rfl, rfl⟩, by simp [Dp.new]⟩, (Below.refl _ w).alloc (Nat.le_refl _) _⟩
  · intro k hk; subst hk; simp
  · exact heap_alloc_new _ _
end Go.Proofs.YthmedpabgblddabGreatDoor.Da
