/-
  The library's functions that the program calls, laid at this dump: which function and which type stands for which.
  'slices.Sorted(maps.Keys(m))' of a map of votes.
  'append' onto a row of the call's own as one step of a region that draws its order.
  body: what a snapshot's frame has.
-/
import Derived.Shelf.SlIterI.Nil
import Derived.Shelf.SlIterI.Sorted
import Derived.Shelf.SortM.Plain
import Derived.Shelf.SortM.SortNone
import Derived.Test.YthmedpabgblddabGreatDoorRows
import Derived.Test.YthmedpabgblddabGreatDoorJnA
import Derived.Test.YthmedpabgblddabGreatDoorKit2
namespace Go.Proofs.YthmedpabgblddabGreatDoor.Tsh
open Go.Shelf
def lkeys_ren : Go.Shelf.Ren := ⟨fun | 7 => 66 | 10 => 81 | n => n, fun | 23 => 46 | 26 => 3 | 3 => 63 | 28 => 94 | 0 => 0 | 27 => 93 | 33 => 49 | 4 => 4 | n => n, fun | n => n⟩
theorem lkeys : Go.Proofs.SlLaysZI.n7 Tryz.prog lkeys_ren := {
  mixed := by kernel_rfl
  f7 := ⟨Tryz.f66.name, by decide, Tryz.func66.trans (congrArg some (by kernel_rfl))⟩
  f10 := ⟨Tryz.f81.name, by decide, Tryz.func81.trans (congrArg some (by kernel_rfl))⟩
  t0 := Tryz.underlying0
  a0 := Tryz.isAgg0
  z0 := Tryz.sizeOf0
  v0 := Tryz.zeroValue0
  t4 := Tryz.underlying4
  a4 := Tryz.isAgg4
  z4 := Tryz.sizeOf4
  v4 := Tryz.zeroValue4
  t23 := Tryz.underlying46
  a23 := Tryz.isAgg46
  z23 := Tryz.sizeOf46
  v23 := Tryz.zeroValue46
  t26 := Tryz.underlying3
  a26 := Tryz.isAgg3
  z26 := Tryz.sizeOf3
  v26 := Tryz.zeroValue3
  t27 := Tryz.underlying93
  a27 := Tryz.isAgg93
  z27 := Tryz.sizeOf93
  v27 := Tryz.zeroValue93
  t28 := Tryz.underlying94
  a28 := Tryz.isAgg94
  z28 := Tryz.sizeOf94
  v28 := Tryz.zeroValue94
  t33 := Tryz.underlying49
  a33 := Tryz.isAgg49
  z33 := Tryz.sizeOf49
  v33 := Tryz.zeroValue49 }
def lsorted_ren : Go.Shelf.Ren := ⟨fun | 6 => 65 | 8 => 79 | 9 => 80 | 11 => 86 | 13 => 88 | 12 => 87 | 23 => 98 | 24 => 99 | 14 => 89 | 15 => 90 | 16 => 91 | 17 => 92 | 18 => 93 | 19 => 94 | 20 => 95 | 21 => 96 | 22 => 97 | 25 => 100 | 26 => 101 | 27 => 102 | 28 => 103 | 29 => 104 | 30 => 105 | 31 => 106 | n => n, fun | 26 => 3 | 28 => 94 | 24 => 67 | 0 => 0 | 3 => 3 | 37 => 102 | 48 => 90 | 50 => 120 | 4 => 4 | 40 => 112 | 39 => 111 | 45 => 97 | 5 => 5 | 9 => 9 | 51 => 121 | 55 => 125 | 57 => 127 | 58 => 128 | 33 => 49 | n => n, fun | n => n⟩
theorem lsorted : Go.Proofs.SlLaysZI.n6 Tryz.prog lsorted_ren := {
  mixed := by kernel_rfl
  f6 := ⟨Tryz.f65.name, by decide, Tryz.func65.trans (congrArg some (by kernel_rfl))⟩
  f8 := ⟨Tryz.f79.name, by decide, Tryz.func79.trans (congrArg some (by kernel_rfl))⟩
  f11 := ⟨Tryz.f86.name, by decide, Tryz.func86.trans (congrArg some (by kernel_rfl))⟩
  t0 := Tryz.underlying0
  a0 := Tryz.isAgg0
  z0 := Tryz.sizeOf0
  v0 := Tryz.zeroValue0
  t24 := Tryz.underlying67
  a24 := Tryz.isAgg67
  z24 := Tryz.sizeOf67
  v24 := Tryz.zeroValue67
  t26 := Tryz.underlying3
  a26 := Tryz.isAgg3
  z26 := Tryz.sizeOf3
  v26 := Tryz.zeroValue3
  t28 := Tryz.underlying94
  a28 := Tryz.isAgg94
  z28 := Tryz.sizeOf94
  v28 := Tryz.zeroValue94
  i26 := by kernel_rfl }
def lsort_ren : Go.Shelf.Ren := ⟨fun | 5 => 80 | 8 => 88 | 7 => 87 | 19 => 98 | 20 => 99 | 10 => 89 | 11 => 90 | 12 => 91 | 13 => 92 | 14 => 93 | 15 => 94 | 16 => 95 | 17 => 96 | 18 => 97 | 30 => 100 | 31 => 101 | 32 => 102 | 33 => 103 | 34 => 104 | 35 => 105 | 40 => 106 | n => n, fun | 23 => 67 | 25 => 3 | 3 => 3 | 32 => 102 | 22 => 67 | 0 => 0 | 44 => 90 | 46 => 120 | 4 => 4 | 36 => 112 | 35 => 111 | 41 => 97 | 5 => 5 | 9 => 9 | 53 => 121 | 57 => 125 | 63 => 127 | 64 => 128 | n => n, fun | n => n⟩
theorem lsort : Go.Proofs.SlLaysM.n5 Tryz.prog lsort_ren := {
  mixed := by kernel_rfl
  f5 := ⟨Tryz.f80.name, by decide, Tryz.func80.trans (congrArg some (by kernel_rfl))⟩
  f7 := ⟨Tryz.f87.name, by decide, Tryz.func87.trans (congrArg some (by kernel_rfl))⟩
  f8 := Tryz.func88.trans (congrArg some (by kernel_rfl))
  f10 := ⟨Tryz.f89.name, by decide, Tryz.func89.trans (congrArg some (by kernel_rfl))⟩
  f11 := ⟨Tryz.f90.name, by decide, Tryz.func90.trans (congrArg some (by kernel_rfl))⟩
  f12 := ⟨Tryz.f91.name, by decide, Tryz.func91.trans (congrArg some (by kernel_rfl))⟩
  f13 := ⟨Tryz.f92.name, by decide, Tryz.func92.trans (congrArg some (by kernel_rfl))⟩
  f14 := ⟨Tryz.f93.name, by decide, Tryz.func93.trans (congrArg some (by kernel_rfl))⟩
  f15 := ⟨Tryz.f94.name, by decide, Tryz.func94.trans (congrArg some (by kernel_rfl))⟩
  f16 := ⟨Tryz.f95.name, by decide, Tryz.func95.trans (congrArg some (by kernel_rfl))⟩
  f17 := ⟨Tryz.f96.name, by decide, Tryz.func96.trans (congrArg some (by kernel_rfl))⟩
  f18 := ⟨Tryz.f97.name, by decide, Tryz.func97.trans (congrArg some (by kernel_rfl))⟩
  f19 := Tryz.func98.trans (congrArg some (by kernel_rfl))
  f20 := Tryz.func99.trans (congrArg some (by kernel_rfl))
  f30 := ⟨Tryz.f100.name, by decide, Tryz.func100.trans (congrArg some (by kernel_rfl))⟩
  f31 := Tryz.func101.trans (congrArg some (by kernel_rfl))
  f32 := Tryz.func102.trans (congrArg some (by kernel_rfl))
  f33 := ⟨Tryz.f103.name, by decide, Tryz.func103.trans (congrArg some (by kernel_rfl))⟩
  f34 := ⟨Tryz.f104.name, by decide, Tryz.func104.trans (congrArg some (by kernel_rfl))⟩
  f35 := ⟨Tryz.f105.name, by decide, Tryz.func105.trans (congrArg some (by kernel_rfl))⟩
  f40 := ⟨Tryz.f106.name, by decide, Tryz.func106.trans (congrArg some (by kernel_rfl))⟩
  t0 := Tryz.underlying0
  a0 := Tryz.isAgg0
  z0 := Tryz.sizeOf0
  v0 := Tryz.zeroValue0
  t3 := Tryz.underlying3
  a3 := Tryz.isAgg3
  z3 := Tryz.sizeOf3
  v3 := Tryz.zeroValue3
  t4 := Tryz.underlying4
  a4 := Tryz.isAgg4
  z4 := Tryz.sizeOf4
  v4 := Tryz.zeroValue4
  t5 := Tryz.underlying5
  a5 := Tryz.isAgg5
  z5 := Tryz.sizeOf5
  v5 := Tryz.zeroValue5
  t9 := Tryz.underlying9
  a9 := Tryz.isAgg9
  z9 := Tryz.sizeOf9
  v9 := Tryz.zeroValue9
  t22 := Tryz.underlying67
  a22 := Tryz.isAgg67
  z22 := Tryz.sizeOf67
  v22 := Tryz.zeroValue67
  t23 := Tryz.underlying67
  a23 := Tryz.isAgg67
  z23 := Tryz.sizeOf67
  v23 := Tryz.zeroValue67
  t25 := Tryz.underlying3
  a25 := Tryz.isAgg3
  z25 := Tryz.sizeOf3
  v25 := Tryz.zeroValue3
  t32 := Tryz.underlying102
  a32 := Tryz.isAgg102
  z32 := Tryz.sizeOf102
  v32 := Tryz.zeroValue102
  t35 := Tryz.underlying111
  a35 := Tryz.isAgg111
  z35 := Tryz.sizeOf111
  v35 := Tryz.zeroValue111
  t36 := Tryz.underlying112
  a36 := Tryz.isAgg112
  z36 := Tryz.sizeOf112
  v36 := Tryz.zeroValue112
  t41 := Tryz.underlying97
  a41 := Tryz.isAgg97
  z41 := Tryz.sizeOf97
  v41 := Tryz.zeroValue97
  t44 := Tryz.underlying90
  a44 := Tryz.isAgg90
  z44 := Tryz.sizeOf90
  v44 := Tryz.zeroValue90
  t46 := Tryz.underlying120
  a46 := Tryz.isAgg120
  z46 := Tryz.sizeOf120
  v46 := Tryz.zeroValue120
  t53 := Tryz.underlying121
  a53 := Tryz.isAgg121
  z53 := Tryz.sizeOf121
  v53 := Tryz.zeroValue121
  t57 := Tryz.underlying125
  a57 := Tryz.isAgg125
  z57 := Tryz.sizeOf125
  v57 := Tryz.zeroValue125
  t63 := Tryz.underlying127
  a63 := Tryz.isAgg127
  z63 := Tryz.sizeOf127
  v63 := Tryz.zeroValue127
  t64 := Tryz.underlying128
  a64 := Tryz.isAgg128
  z64 := Tryz.sizeOf128
  v64 := Tryz.zeroValue128 }
end Go.Proofs.YthmedpabgblddabGreatDoor.Tsh

namespace Go.Proofs.YthmedpabgblddabGreatDoor.Ts
open Go.RowKit Go.Maps Go.Sort Go.Shelf Kt Dk Tp Tm Tsh
set_option linter.unusedVariables false
set_option maxRecDepth 20000

def iK (l : Sl) : List Value := l.map fun p => Value.int .i64 (p.1 : Int)
theorem iK_len (l : Sl) : (iK l).length = l.length := by simp [iK]
theorem intKeys_Dm (l : Sl) : intKeys (Dm l) = l.map (fun p => (p.1 : Int)) := by
  simp only [Dm, intKeys, List.map_map]
  rfl
theorem sorts (m : Nat) : AnyZI.SortsIn Tryz.prog lsorted_ren Fence.wide m :=
  ⟨fun blk off cap ss W hH hblk hsz => callsIn_wide.2 (AnyM.slices_Sort_int lsort blk off cap ss W hH hblk hsz),
   fun p cap W => callsIn_wide.2 (AnyM.slices_Sort_int_none lsort p cap W)⟩
theorem keys_any (mb : Option Nat) (W : World) : Calls Tryz.prog 66 #[.map mb] W fun e w' => e = .returned (.func (.func 81) #[] #[.pointer (some ⟨W.heap.size, 0, none⟩)]) ∧ w' = W.alloc (.cells #[.map mb] 46) :=
  (callsIn_wide (n := 5)).1 (AnyZI.keys_in lkeys Fence.wide 5 trivial rfl mb W)
theorem sort_is {l : Sl} (hs : Srt l) {ss : List Int} (h : ss.Perm (l.map fun p => (p.1 : Int))) : (ss.mergeSort fun x y => decide (x ≤ y)) = l.map fun p => (p.1 : Int) := by
  have h1 := mergeSort_of_perm_i h
  unfold leI at h1
  rw [h1]
  refine List.mergeSort_of_pairwise ?_
  rw [List.pairwise_map]
  exact List.Pairwise.imp (fun {a b} h => by simp; omega) hs

set_option maxHeartbeats 1000000 in
theorem sorted_any {w : World} {b : Nat} {l : Sl} (hm : Mw w b l) (hs : Srt l) (hl : l.length ≤ 100000) :
    Calls Tryz.prog 65 #[.func (.func 81) #[] #[.pointer (some ⟨w.heap.size, 0, none⟩)]] (w.alloc (.cells #[.map (some b)] 46)) fun e w' => ∃ ao cap, e = .returned (.slice ao l.length cap) ∧
      w'.ownsRow (w.heap.size + 1) 3 1 (.slice ao l.length cap) l.length (iK l) ∧ Below (w.heap.size + 1) (w.alloc (.cells #[.map (some b)] 46)) w' := by
  have hbl := hm.lt
  have hown : w.ownsMap Tryz.prog 3 vE b l.length (Dm l) := hm
  have hseq : SeqGives Fence.wide 2 Tryz.prog 81 #[.pointer (some ⟨w.heap.size, 0, none⟩)] encZ (fun ss => ss.Perm (intKeys (Dm l))) (Maps.size (Dm l)) (w.alloc (.cells #[.map (some b)] 46)) :=
    AnyZI.keys_gives (ρ := lkeys_ren) { lkeys with } Fence.wide _ trivial rfl (by omega) w.heap.size b l.length (Dm l) _ (by simp) (by simp) (hown.alloc _)
  refine (callsIn_wide (n := 5)).1 ?_
  refine (AnyZI.sorted_in lsorted Fence.wide 5 trivial trivial trivial trivial rfl (by omega) (sorts _) (enters_of Tryz.func80 (by kernel_rfl) rfl) 81 #[.pointer (some ⟨w.heap.size, 0, none⟩)] trivial (enters_of Tryz.func81 (by kernel_rfl) rfl) _ _ (by rw [Dm_size]; unfold maxLen; omega) (by rw [Dm_size]; omega) _ hseq).mono ?_
  rintro e w' ⟨v, ss, rfl, hS, hrow, hnil, hb⟩
  have hsz : (w.alloc (.cells #[.map (some b)] 46)).heap.size = w.heap.size + 1 := by simp
  rw [hsz] at hrow hb
  rw [intKeys_Dm] at hS
  have hlen : ss.length = l.length := by rw [hS.length_eq]; simp
  rw [sort_is hs hS, hlen] at hrow
  have e1 : (l.map fun p => (p.1 : Int)).map encZ = iK l := by simp [iK, encZ]
  rw [e1] at hrow
  obtain ⟨ao, cap, rfl⟩ := own_form hrow
  exact ⟨ao, cap, rfl, hrow, hb⟩
end Go.Proofs.YthmedpabgblddabGreatDoor.Ts

namespace Go.Proofs.YthmedpabgblddabGreatDoor.Ks
open Go.RowKit Kt
set_option linter.unusedVariables false

theorem step_append_own_src {P : Program} {ops : Array Oper} {o : Oper} {a : Act} {w : World} {K : Act → World → Prop} {Q : Exit → Act → World → Prop} {E : Prop}
    (hg : o.guard = none) (s x : Operand) (t tx : TypeId) (hop : o.op = Op.call { callee := Callee.builtin Builtin.append, args := #[s, x], argTypes := #[t, tx] })
    (base : Nat) (e : TypeId) (z : Value) (size bytes : Nat) (ht : P.underlying t = some (.slice e)) (hinfo : (P.info? e).map (fun i => (i.zero, i.size, i.bytes)) = some (some z, size, bytes))
    (hzs : z.cells.size = size) (hsz : 0 < size)
    (v : Value) (n : Nat) (xs : List Value) (hs : a.eval s = v) (hown : w.ownsRow base e size v n xs)
    (xv : Value) (m : Nat) (news : List Value) (hx : a.eval x = xv) (hsrc : Src P size tx xv m news w)
    (h63 : n + m ≤ maxLen) (hbytes : (n + m) * bytes ≤ 140737488355328) (hbase : base ≤ w.heap.size)
    (hK : ∀ v' w', w'.ownsRow base e size v' (n + m) (xs ++ news) → w.grownBy w' v.ownBlock → K (a.put o.dst v') w') :
    if Region.wanted o (yielded ops a.tmps) = true then Oper.wp P o a w K Q else E := by
  obtain ⟨i, hi, hz, hsize, hby⟩ := info_parts hinfo
  have hw : Region.wanted o (yielded ops a.tmps) = true := by simp [Region.wanted, hg]
  rw [if_pos hw]
  obtain ⟨v', w', hr, h2, h3⟩ := run_append_own_src (P := P) w base t tx o.type e i z size bytes ht hi hz hsize hby hzs hsz v n xs hown xv m news hsrc h63 hbytes hbase
  unfold Oper.wp
  simp [execOp, hop, resolve, invoke, builtin, hs, hx, hr, Result.andThen]
  exact hK v' w' h2 h3
/-- A guard: this step is an append of these operands. -/
theorem atApp {P : Program} {ops : Array Oper} {o : Oper} {a : Act} {w : World} {K : Act → World → Prop} {Q : Exit → Act → World → Prop} {E : Prop} (s x : Operand) (t tx : TypeId)
    (hop : o.op = Op.call { callee := Callee.builtin Builtin.append, args := #[s, x], argTypes := #[t, tx] }) (h : if Region.wanted o (yielded ops a.tmps) = true then Oper.wp P o a w K Q else E) :
    if Region.wanted o (yielded ops a.tmps) = true then Oper.wp P o a w K Q else E := h
end Go.Proofs.YthmedpabgblddabGreatDoor.Ks

namespace Go.Proofs.YthmedpabgblddabGreatDoor.Te
open Go.RowKit Kt Dk Tp Tm Pl Cs Cf Cv Se Rd Wr Ta Tb0 Tc Ts Go.Maps
set_option linter.unusedVariables false
set_option maxRecDepth 20000

theorem look_at {W : World} {b : Nat} {l : Sl} (h : Mw W b l) {k : Nat} {u : V} (hk : k ≤ 4611686018427387904) (ha : atS l k = some u) : (Instr.lookup 46 (.map (some b)) (.int .i64 (k : Int)) false).run Tryz.prog W = .ok (.agg #[.int .i64 (u.bal : Int), .string ⟨u.val.toArray⟩]) W := by
  obtain ⟨v, ps, hrun, hv⟩ := World.ownsMap.lookup h law Tryz.underlying46 (zeroV W) (vE_mk ⟨0, []⟩) (hkey (k := k) (by omega))
  rw [Dm_at, ha] at hv
  have := vE_is hv
  subst this
  exact hrun
/-- Two rows of different kinds lie apart. -/
theorem own_kinds {w : World} {b1 b2 s1 s2 n1 n2 e1 e2 : Nat} {v1 v2 : Value} {x1 x2 : List Value} (h1 : w.ownsRow b1 e1 s1 v1 n1 x1) (h2 : w.ownsRow b2 e2 s2 v2 n2 x2) (hne : e1 ≠ e2) : ∀ k, v1.ownBlock = some k → v2.ownBlock ≠ some k := fun k hk hk2 => by
  rcases h1.2 with ⟨rfl, -⟩ | ⟨g, cap, cur, rfl, -, hg, -⟩
  · simp [Value.ownBlock] at hk
  · rcases h2.2 with ⟨rfl, -⟩ | ⟨g2, cap2, cur2, rfl, -, hg2, -⟩
    · simp [Value.ownBlock] at hk2
    · simp only [Value.ownBlock, Option.some.injEq] at hk hk2
      subst hk
      subst hk2
      rw [hg] at hg2
      simp only [Option.some.injEq, Obj.cells.injEq] at hg2
      exact hne hg2.2.1
theorem own_apart {w : World} {b1 s1 n1 e1 e2 nb : Nat} {v1 : Value} {x1 : List Value} {cs : Array Value} (h1 : w.ownsRow b1 e1 s1 v1 n1 x1) (h2 : w.heap[nb]? = some (.cells cs e2 (0, 0))) (hne : e1 ≠ e2) : v1.ownBlock ≠ some nb := fun hk => by
  rcases h1.2 with ⟨rfl, -⟩ | ⟨g, cap, cur, rfl, -, hg, -⟩
  · simp [Value.ownBlock] at hk
  · simp only [Value.ownBlock, Option.some.injEq] at hk
    subst hk
    rw [hg] at h2
    simp only [Option.some.injEq, Obj.cells.injEq] at h2
    exact hne h2.2.1
theorem own_fr {w w' : World} {base e size n : Nat} {v : Value} {xs : List Value} {Q : Nat → Prop} (h : w.ownsRow base e size v n xs) (hf : Fr Q w w') (hq : ∀ k, v.ownBlock = some k → ¬ Q k) : w'.ownsRow base e size v n xs :=
  Sa.own_keeps h (fun g hg => hf.heap (h.lt g hg).2 (hq g hg))
theorem cells3 (W : World) (a b c : Nat) : ∀ i, i < [a, b, c].length → (W.alloc (.cells #[.int .i64 (a : Int), .int .i64 (b : Int), .int .i64 (c : Int)] 3)).cell? ⟨W.heap.size, i, none⟩ = some (.int .i64 (([a, b, c].getD i 0 : Nat) : Int)) := fun i hi => by
  simp only [List.length_cons, List.length_nil] at hi
  rcases i with _ | _ | _ | i
  · exact Cw.cell_new_at W _ _ 0 _ rfl
  · exact Cw.cell_new_at W _ _ 1 _ rfl
  · exact Cw.cell_new_at W _ _ 2 _ rfl
  · omega
theorem cells2 (W : World) (a b : Nat) : ∀ i, i < [a, b].length → (W.alloc (.cells #[.int .i64 (a : Int), .int .i64 (b : Int)] 3)).cell? ⟨W.heap.size, i, none⟩ = some (.int .i64 (([a, b].getD i 0 : Nat) : Int)) := fun i hi => by
  simp only [List.length_cons, List.length_nil] at hi
  rcases i with _ | _ | i
  · exact Cw.cell_new_at W _ _ 0 _ rfl
  · exact Cw.cell_new_at W _ _ 1 _ rfl
  · omega
/-- addNums onto nothing, the numbers just laid. -/
theorem addNums3 (W : World) (a b c : Nat) (ha : a ≤ 4611686018427387904) (hb : b ≤ 4611686018427387904) (hc : c ≤ 4611686018427387904) :
    Calls Tryz.prog 24 #[.slice none 0 0, .slice (some ⟨W.heap.size, 0, none⟩) 3 3] (W.alloc (.cells #[.int .i64 (a : Int), .int .i64 (b : Int), .int .i64 (c : Int)] 3)) fun e w' => ∃ ao cap, e = .returned (.slice ao (flat [a, b, c]).length cap) ∧ w'.ownsRow W.heap.size 5 1 (.slice ao (flat [a, b, c]).length cap) (flat [a, b, c]).length (U (flat [a, b, c])) ∧ Below W.heap.size W w' := by
  have hb0 : Below W.heap.size W (W.alloc (.cells #[.int .i64 (a : Int), .int .i64 (b : Int), .int .i64 (c : Int)] 3)) := (Below.refl _ W).alloc (Nat.le_refl _) _
  have := addNums_any (W.alloc (.cells #[.int .i64 (a : Int), .int .i64 (b : Int), .int .i64 (c : Int)] 3)) W.heap.size none 0 [] (by simpa [U] using World.ownsRow_nil _ W.heap.size 5 1) hb0.size (by simp) W.heap.size [a, b, c] 3 (by simp) (cells3 W a b c) (fun x hx => by simp only [List.mem_cons, List.not_mem_nil, or_false] at hx; rcases hx with rfl | rfl | rfl <;> assumption) (by simp [Value.ownBlock])
  simp only [List.nil_append, List.length_nil, List.length_cons] at this
  refine this.mono ?_
  rintro e w' ⟨ao, cap, rfl, h1, h2, -⟩
  exact ⟨ao, cap, rfl, h1, hb0.trans (h2.below (fun k hk => by simp [Value.ownBlock] at hk) hb0.size)⟩
theorem addNums2 (W : World) (a b : Nat) (ha : a ≤ 4611686018427387904) (hb : b ≤ 4611686018427387904) :
    Calls Tryz.prog 24 #[.slice none 0 0, .slice (some ⟨W.heap.size, 0, none⟩) 2 2] (W.alloc (.cells #[.int .i64 (a : Int), .int .i64 (b : Int)] 3)) fun e w' => ∃ ao cap, e = .returned (.slice ao (flat [a, b]).length cap) ∧ w'.ownsRow W.heap.size 5 1 (.slice ao (flat [a, b]).length cap) (flat [a, b]).length (U (flat [a, b])) ∧ Below W.heap.size W w' := by
  have hb0 : Below W.heap.size W (W.alloc (.cells #[.int .i64 (a : Int), .int .i64 (b : Int)] 3)) := (Below.refl _ W).alloc (Nat.le_refl _) _
  have := addNums_any (W.alloc (.cells #[.int .i64 (a : Int), .int .i64 (b : Int)] 3)) W.heap.size none 0 [] (by simpa [U] using World.ownsRow_nil _ W.heap.size 5 1) hb0.size (by simp) W.heap.size [a, b] 2 (by simp) (cells2 W a b) (fun x hx => by simp only [List.mem_cons, List.not_mem_nil, or_false] at hx; rcases hx with rfl | rfl <;> assumption) (by simp [Value.ownBlock])
  simp only [List.nil_append, List.length_nil, List.length_cons] at this
  refine this.mono ?_
  rintro e w' ⟨ao, cap, rfl, h1, h2, -⟩
  exact ⟨ao, cap, rfl, h1, hb0.trans (h2.below (fun k hk => by simp [Value.ownBlock] at hk) hb0.size)⟩
theorem eS_take {l : Sl} {j : Nat} {k : Nat} {v : V} (h : l[j]? = some (k, v)) : eS (l.take (j + 1)) = eS (l.take j) ++ (flat [k, v.bal, v.val.length] ++ v.val) := by
  rw [List.take_add_one, h, Option.toList_some, eS_app]
  simp [eS, flat]
theorem eM_is (m : M) : eM m = flat [m.pr, m.ba, m.sl.length] ++ eS m.sl := by simp [eM, flat]
end Go.Proofs.YthmedpabgblddabGreatDoor.Te
