/-
  A Hash that is nil, or that New did not make: Write, Len, Sum, Copy.
-/
import Derived.Test.YtnnhimoihbdopaaDoorDgX
namespace Go.Proofs.YtnnhimoihbdopaaDoor.Dy
open Go.RowKit Kt Dk Dw Ds Dt De Df Dg Dh Di Dx
set_option linter.unusedVariables false
set_option maxRecDepth 20000

/-- isMade answers no, in this world and in what it grows to. -/
def Un (w : World) (p : Option Addr) : Prop := ∀ W, Below w.heap.size w W → Calls Tryd.prog 24 #[.pointer p] W fun e w' => e = .returned (.bool false) ∧ w' = W
theorem Un.below {w w' : World} {p : Option Addr} (h : Un w p) (hb : Below w.heap.size w w') : Un w' p := fun W hW => h W (hb.trans (hW.mono hb.size))
theorem un_nil (w : World) : Un w none := fun W _ => isMade_nil W
theorem un_not (w : World) (b : Nat) (h : w.cell? ⟨b, 0, none⟩ = some (.bool false)) : Un w (some ⟨b, 0, none⟩) := fun W hW =>
  isMade_not W b (by rw [hW.cell (p := ⟨b, 0, none⟩) (World.block_lt_of_cell? w _ h)]; exact h)

theorem write_un (w : World) (p : Option Addr) (h : Un w p) (v : Value) : Calls Tryd.prog 16 #[.pointer p, v] w fun e w' => e = .returned (.int .i64 1) ∧ w' = w := by
  have HU := mkH (h w (Below.refl _ _))
  clear h
  go_enter Tryd.func16, Tryd.ntmps16
  go_wp2_with fail
  refine HU.out.mono ?_
  rintro e w1 ⟨rfl, hw⟩
  have hw2 := hw.symm
  subst hw2
  go_wp2
  go_ret
  exact ⟨rfl, rfl⟩
theorem len_un (w : World) (p : Option Addr) (h : Un w p) : Calls Tryd.prog 18 #[.pointer p] w fun e w' => e = .returned (.int .i64 0) ∧ w' = w := by
  have HU := mkH (h w (Below.refl _ _))
  clear h
  go_enter Tryd.func18, Tryd.ntmps18
  go_wp2_with fail
  refine HU.out.mono ?_
  rintro e w1 ⟨rfl, hw⟩
  have hw2 := hw.symm
  subst hw2
  go_wp2
  go_ret
  exact ⟨rfl, rfl⟩
theorem copy_un (w : World) (p : Option Addr) (h : Un w p) : Calls Tryd.prog 19 #[.pointer p] w fun e w' => e = .returned (.pointer none) ∧ w' = w := by
  have HU := mkH (h w (Below.refl _ _))
  clear h
  go_enter Tryd.func19, Tryd.ntmps19
  go_wp2_with fail
  refine HU.out.mono ?_
  rintro e w1 ⟨rfl, hw⟩
  have hw2 := hw.symm
  subst hw2
  go_wp2
  go_ret
  exact ⟨rfl, rfl⟩

/-- 'append' where the operation is guarded, and its guard is met. -/
theorem wpList_append_wanted {P : Program} {w : World} {ops : Array Oper} {rest : List Oper} {o : Oper} {a : Act} {Q : Exit → Act → World → Prop} (hw : Region.wanted o (yielded ops a.tmps) = true) (s x : Operand) (t tx : TypeId)
    (hop : o.op = Op.call { callee := Callee.builtin Builtin.append, args := #[s, x], argTypes := #[t, tx] })
    (base : Nat) (e : TypeId) (z : Value) (size bytes : Nat) (ht : P.underlying t = some (.slice e)) (hinfo : (P.info? e).map (fun i => (i.zero, i.size, i.bytes)) = some (some z, size, bytes))
    (hzs : z.cells.size = size) (hsz : 0 < size)
    (v : Value) (n : Nat) (xs : List Value) (hs : a.eval s = v) (hown : w.ownsRow base e size v n xs)
    (xv : Value) (m : Nat) (news : List Value) (hx : a.eval x = xv) (hsrc : Src P size tx xv m news w)
    (h63 : n + m ≤ maxLen) (hbytes : (n + m) * bytes ≤ 140737488355328) (hbase : base ≤ w.heap.size)
    (h : ∀ v' w', w'.ownsRow base e size v' (n + m) (xs ++ news) → w.grownBy w' v.ownBlock → wpList P ops Q rest (a.put o.dst v') w') : wpList P ops Q (o :: rest) a w := by
  obtain ⟨i, hi, hz, hsize, hby⟩ := info_parts hinfo
  refine wpList_step fun K hK => ?_
  rw [if_pos hw]
  obtain ⟨v', w', hr, h2, h3⟩ := run_append_own_src (P := P) w base t tx o.type e i z size bytes ht hi hz hsize hby hzs hsz v n xs hown xv m news hsrc h63 hbytes hbase
  unfold Oper.wp execOp
  simp only [hop, resolve, invoke, builtin, Sem.run_bind, Sem.run_pure, Result.andThen_ok, List.map_toArray, List.map_cons, List.map_nil, hs, hx, hr]
  exact hK _ _ (h v' w' h2 h3)

theorem wpList_build_wanted {P : Program} {w : World} {ops : Array Oper} {rest : List Oper} {o : Oper} {a : Act} {Q : Exit → Act → World → Prop} (hw : Region.wanted o (yielded ops a.tmps) = true) (ty : TypeId) (ps : Array (Nat × Operand)) (ho : o.op = .build ty ps) (parts : Array (Nat × Value)) (hp : (ps.map fun p => (p.1, a.eval p.2)) = parts) (v : Value) (hr : (Instr.build ty parts).run P w = .ok v w)
    (h : wpList P ops Q rest (a.put o.dst v) w) : wpList P ops Q (o :: rest) a w := by
  refine wpList_step fun K hK => ?_
  rw [if_pos hw]
  unfold Oper.wp execOp
  simp only [ho]
  rw [show (ps.map fun x => (x.1, a.eval x.2)) = parts from hp]
  simp only [Sem.run_bind, Sem.run_pure, hr, Result.andThen_ok]
  exact hK _ _ h
theorem build_hash0 : ∃ C0 : Array Value, (∀ W, (Instr.build 42 #[]).run Tryd.prog W = .ok (.agg C0) W) ∧ C0[0]? = some (.bool false) :=
  ⟨(Value.bool false :: (W32 (List.replicate 8 0) ++ (U (List.replicate 64 0) ++ [Value.int .i64 0]))).toArray, fun W => by kernel_rfl, rfl⟩

/-- A guard: the walk stands at an operation. -/
theorem atList {P : Program} {w : World} {ops : Array Oper} {rest : List Oper} {o : Oper} {a : Act} {Q : Exit → Act → World → Prop} (h : wpList P ops Q (o :: rest) a w) : wpList P ops Q (o :: rest) a w := h
theorem build_zero (W : World) : (Instr.build 24 #[]).run Tryd.prog W = .ok (.agg (U (List.replicate 32 0)).toArray) W := by kernel_rfl
set_option maxHeartbeats 1000000 in
theorem sum_un0 (w : World) (p : Option Addr) (h : Un w p) (z : List Value) (hzl : z.length = 32) (hz1 : ∀ v ∈ z, v.oneCell' = true) (hbz : ∀ W, (Instr.build 24 #[]).run Tryd.prog W = .ok (.agg z.toArray) W) :
    Calls Tryd.prog 17 #[.pointer p] w fun e w' => e = .returned (.agg z.toArray) ∧ Below w.heap.size w w' := by
  have HU := mkH h
  clear h
  have hi : (Tryd.prog.info? 24).map (·.size) = some z.length := by rw [hzl]; kernel_rfl
  have HI := mkH hi
  have HL := mkH hzl
  have HZ := mkH hz1
  have HB := mkH hbz
  clear hzl hi hz1 hbz
  go_enter Tryd.func17, Tryd.ntmps17
  go_wp2_with (refine wpList_alloc_agg rfl 24 rfl 32 (by kernel_rfl) ?_; intro Z hZ)
  have hb : Below w.heap.size w (w.alloc (.cells Z 24)) := (Below.refl _ w).alloc (Nat.le_refl _) _
  refine (HU.out _ hb).mono ?_
  rintro e w1 ⟨rfl, hw⟩
  subst hw
  clear hb
  go_upto_region 2 with fail
  go_step
  refine Dg.wpList_build rfl 24 #[] rfl #[] (by simp) (.agg z.toArray) (HB.out _) ?_
  refine wpList_store_new rfl 24 (.tmp 2) (.tmp 10) rfl w Z rfl z rfl HI.out (by rw [hZ, HL.out]) HZ.out ?_
  go_wp2
  refine ret_cell 2 24 rfl w.heap.size rfl _ Tryd.underlying24 rfl z HI.out _ _ (heap_alloc_new _ _) rfl ⟨rfl, (Below.refl _ w).alloc (Nat.le_refl _) _⟩
theorem sum_un (w : World) (p : Option Addr) (h : Un w p) : Calls Tryd.prog 17 #[.pointer p] w fun e w' => e = .returned (.agg (U (List.replicate 32 0)).toArray) ∧ Below w.heap.size w w' :=
  sum_un0 w p h _ (by rw [U_length, List.length_replicate]) (U_one _) build_zero
end Go.Proofs.YtnnhimoihbdopaaDoor.Dy
