/-
  The contract of the document's schedule: a block's 64 words.
-/
import Derived.Test.YtbemindfmghjdaaDoorDgR0
import Derived.Deep.RegionLaw
import Derived.BigRegion
import Derived.Deep.RegionWith
namespace Go.Proofs.YtbemindfmghjdaaDoor.Dr2
open Go.RowKit Kt Dk Dw Dr Dr0
set_option linter.unusedVariables false
set_option maxRecDepth 20000

theorem step_append_own_src {P : Program} {ops : Array Oper} {o : Oper} {a : Act} {w : World} {K : Act → World → Prop} {Q : Exit → Act → World → Prop} {E : Prop}
    (hg : o.guard = none) (s x : Operand) (t tx : TypeId) (hop : o.op = Op.call { callee := Callee.builtin Builtin.append, args := #[s, x], argTypes := #[t, tx] })
    (base : Nat) (e : TypeId) (z : Value) (size bytes : Nat) (ht : P.underlying t = some (.slice e)) (hinfo : (P.info? e).map (fun i => (i.zero, i.size, i.bytes)) = some (some z, size, bytes))
    (hzs : z.cells.size = size) (hsz : 0 < size)
    (v : Value) (n : Nat) (xs : List Value) (hs : a.eval s = v) (hown : w.ownsRow base e size v n xs)
    (xv : Value) (m : Nat) (news : List Value) (hx : a.eval x = xv) (hsrc : Src P size tx xv m news w)
    (h63 : n + m ≤ maxLen) (hbytes : (n + m) * bytes ≤ 140737488355328) (hbase : base ≤ w.heap.size)
    (hK : ∀ v' w', w'.ownsRow base e size v' (n + m) (xs ++ news) → w.grownBy w' v.ownBlock → K (a.put o.dst v') w') :
    if Region.wanted o (yielded ops a.tmps) = true then Oper.wp P o a w K Q else E := by
  obtain ⟨i, hi, hz, hsize, hby⟩ := info_parts hinfo
  have hw : Region.wanted o (yielded ops a.tmps) = true := by simp [Region.wanted, hg]
  rw [if_pos hw]
  obtain ⟨v', w', hr, h2, h3⟩ := run_append_own_src (P := P) w base t tx o.type e i z size bytes ht hi hz hsize hby hzs hsz v n xs hown xv m news hsrc h63 hbytes hbase
  unfold Oper.wp
  simp [execOp, hop, resolve, invoke, builtin, hs, hx, hr, Result.andThen]
  exact hK v' w' h2 h3
theorem step_append_keep {P : Program} {ops : Array Oper} {o : Oper} {a : Act} {w : World} {K : Act → World → Prop} {Q : Exit → Act → World → Prop} {E : Prop}
    (hg : o.guard = none) (s x : Operand) (t tx : TypeId) (hop : o.op = Op.call { callee := Callee.builtin Builtin.append, args := #[s, x], argTypes := #[t, tx] })
    (base : Nat) (e : TypeId) (z : Value) (size bytes : Nat) (ht : P.underlying t = some (.slice e)) (hinfo : (P.info? e).map (fun i => (i.zero, i.size, i.bytes)) = some (some z, size, bytes))
    (hzs : z.cells.size = size) (hsz : 0 < size)
    (v : Value) (n : Nat) (xs : List Value) (hs : a.eval s = v) (hown : w.ownsRow base e size v n xs)
    (xv : Value) (m : Nat) (news : List Value) (hx : a.eval x = xv) (hsrc : Src P size tx xv m news w)
    (h63 : n + m ≤ maxLen) (hbytes : (n + m) * bytes ≤ 140737488355328) (hbase : base ≤ w.heap.size)
    (hK : ∀ v' w', w'.ownsRow base e size v' (n + m) (xs ++ news) → w.grownBy w' v.ownBlock → (∀ g, v.ownBlock = some g → ∀ j u, xs[j]? = some u → w'.cell? ⟨g, j, none⟩ = some u) → K (a.put o.dst v') w') :
    if Region.wanted o (yielded ops a.tmps) = true then Oper.wp P o a w K Q else E := by
  obtain ⟨i, hi, hz, hsize, hby⟩ := info_parts hinfo
  have hw : Region.wanted o (yielded ops a.tmps) = true := by simp [Region.wanted, hg]
  rw [if_pos hw]
  obtain ⟨v', w', hr, h2, h3, h4⟩ := run_append_keep (P := P) w base t tx o.type e i z size bytes ht hi hz hsize hby hzs hsz v n xs hown xv m news hsrc h63 hbytes hbase
  unfold Oper.wp
  simp [execOp, hop, resolve, invoke, builtin, hs, hx, hr, Result.andThen]
  exact hK v' w' h2 h3 h4
theorem atApp {P : Program} {ops : Array Oper} {o : Oper} {a : Act} {w : World} {K : Act → World → Prop} {Q : Exit → Act → World → Prop} {E : Prop} (s x : Operand) (t tx : TypeId)
    (hop : o.op = Op.call { callee := Callee.builtin Builtin.append, args := #[s, x], argTypes := #[t, tx] }) (h : if Region.wanted o (yielded ops a.tmps) = true then Oper.wp P o a w K Q else E) :
    if Region.wanted o (yielded ops a.tmps) = true then Oper.wp P o a w K Q else E := h
theorem src_valD {P : Program} {tx e' T : TypeId} (hk : P.underlying tx = some (.slice e')) (w : World) (u : Value) (h1 : u.oneCell' = true) :
    Src P 1 tx (.slice (some ⟨w.heap.size, 0, none⟩) 1 1) 1 [u] (w.alloc (.cells #[u] T)).drew := by
  refine Src.ofSlice _ hk _ _ 1 _ (by simp) (fun j x hj => ?_) (fun x hx => by rw [List.mem_singleton.1 hx]; exact h1)
  have hl : j = 0 := by
    rcases Nat.eq_zero_or_pos j with h | h
    · exact h
    · rw [List.getElem?_eq_none (by simp; omega)] at hj; cases hj
  subst hl
  simp at hj
  subst hj
  exact cell_one_new _ _ _ 0 _ rfl

theorem own_snocW {w : World} {base : Nat} {v : Value} {l : List Nat} {n x : Nat} (h : w.ownsRow base 137 1 v (n + 1) (W32 l ++ [.int .u32 (x : Int)])) : w.ownsRow base 137 1 v (n + 1) (W32 (l ++ [x])) := by
  rw [W32_append]; exact h

theorem own_cells {w : World} {base n cap : Nat} {ao : Option Addr} {l : List Nat} (h : w.ownsRow base 137 1 (.slice ao n cap) n (W32 l)) (hn : 0 < n) : ∃ g, ao = some ⟨g, 0, none⟩ ∧ base ≤ g ∧ g < w.heap.size ∧ n ≤ cap ∧ ∀ j, j < n → w.cell? ⟨g, j, none⟩ = some (.int .u32 ((l.getD j 0 : Nat) : Int)) := by
  have hl : l.length = n := by have := h.1; rw [W32_length] at this; omega
  rcases h.2 with ⟨e1, e2⟩ | ⟨g, c, cur, e1, hb, hg, hnc, _, _, ht⟩
  · omega
  · simp only [Value.slice.injEq] at e1
    obtain ⟨rfl, _, rfl⟩ := e1
    refine ⟨g, rfl, hb, (Array.getElem?_eq_some_iff.1 hg).1, hnc, fun j hj => ?_⟩
    rw [World.ownsRow.cellAt h j (by omega), W32_at l j (by omega)]

set_option maxHeartbeats 4000000 in
theorem schedule_any (w : World) (b off cap : Nat) (blk : List UInt8) (hb : blk.length = 64) (hc : ∀ i, i < 64 → w.cell? ⟨b, off + i, none⟩ = some (.int .u8 ((blk.getD i 0).toNat : Int))) :
    Calls Tryd.prog 90 #[.slice (some ⟨b, off, none⟩) 64 cap] w fun e w' => ∃ v, e = .returned v ∧ OwnW w' w.heap.size v (Dp.sch blk 64) ∧ Below w.heap.size w w' := by
  have hbw : b < w.heap.size := World.block_lt_of_cell? w _ (hc 0 (by omega))
  go_enter Tryd.func90, Tryd.ntmps90
  go_wp2
  go_loopw [3, 4] (fun v i W => ∃ k : Nat, k ≤ 16 ∧ i = .int .i64 k ∧ W.ownsRow w.heap.size 137 1 v k (W32 (Dp.sch blk k)) ∧ Below w.heap.size w W) (fun _ i _ => 16 - (intOf i).toNat)
  case atStart => exact ⟨0, by omega, rfl, World.ownsRow_nil w w.heap.size 137 1, Below.refl _ _⟩
  case round =>
    obtain ⟨k, hk, rfl, hown, hbel⟩ := hrel
    obtain ⟨ao2, cap2, rfl⟩ := own_form hown
    by_cases hlt : k = 16
    · have t0 : decide ((k : Int) < 16) = false := by simp; omega
      subst hlt
      go_wp2_with fail
      clear hc hb
      go_loopw [3, 5] (fun v i W => ∃ k : Nat, 16 ≤ k ∧ k ≤ 64 ∧ i = .int .i64 k ∧ W.ownsRow w.heap.size 137 1 v k (W32 (Dp.sch blk k)) ∧ Below w.heap.size w W) (fun _ i _ => 64 - (intOf i).toNat)
      case atStart => exact ⟨16, by omega, by omega, rfl, hown, hbel⟩
      case round =>
        clear hown hbel
        obtain ⟨k, hk16, hk64, rfl, hown, hbel⟩ := hrel
        obtain ⟨ao3, cap3, rfl⟩ := own_form hown
        by_cases hlt : k = 64
        · have t1 : decide ((k : Int) < 64) = false := by simp; omega
          subst hlt
          have HOW : Hid (OwnW wr w.heap.size (.slice ao3 64 cap3) (Dp.sch blk 64)) := by unfold Hid OwnW; rw [Dp.sch_length]; exact hown
          have HB := mkH hbel
          clear hown hbel
          go_wp2
          go_ret
          exact ⟨_, rfl, HOW.out, HB.out⟩
        · have t1 : decide ((k : Int) < 64) = true := by simp; omega
          obtain ⟨g, rfl, hbg, hgw, hncap, hcl⟩ := own_cells hown (by omega)
          have hk1 : k ≤ 63 := by omega
          have hk0 : (k : Int) < 64 := by omega
          have c0 := hcl (k - 16) (by omega)
          have c1 := hcl (k - 15) (by omega)
          have c9 := hcl (k - 7) (by omega)
          have c14 := hcl (k - 2) (by omega)
          have hlt2 := Dp.sch_lt blk k
          have hA := Dp.getD_lt hlt2 (k - 16)
          have hB := Dp.getD_lt hlt2 (k - 7)
          have hE := Dp.getD_lt hlt2 (k - 15)
          have hL := Dp.getD_lt hlt2 (k - 2)
          have HN : Hid (Dp.sch blk (k + 1) = Dp.sch blk k ++ [Dp.add (Dp.add (Dp.add ((Dp.sch blk k).getD (k - 16) 0) ((Dp.sch blk k).getD (k - 7) 0)) (Dp.lil 7 18 3 ((Dp.sch blk k).getD (k - 15) 0))) (Dp.lil 17 19 10 ((Dp.sch blk k).getD (k - 2) 0))]) := by
            unfold Hid
            rw [Dp.sch, Dp.grow, if_neg (by omega), Dp.nxt]
          generalize (Dp.sch blk k).getD (k - 16) 0 = A at c0 hA HN
          generalize (Dp.sch blk k).getD (k - 7) 0 = B at c9 hB HN
          generalize (Dp.sch blk k).getD (k - 15) 0 = E at c1 hE HN
          generalize (Dp.sch blk k).getD (k - 2) 0 = L at c14 hL HN
          have T1 : Hid (∀ W, Calls Tryd.prog 91 #[.int .u32 E, .int .i64 7] W fun e w' => e = .returned (.int .u32 (Dp.rotr 7 E : Nat)) ∧ ∃ n, w' = W.drewN n) := fun W => refTurn_any W E 7 hE (by decide) (by decide)
          have T2 : Hid (∀ W, Calls Tryd.prog 91 #[.int .u32 E, .int .i64 18] W fun e w' => e = .returned (.int .u32 (Dp.rotr 18 E : Nat)) ∧ ∃ n, w' = W.drewN n) := fun W => refTurn_any W E 18 hE (by decide) (by decide)
          have T3 : Hid (∀ W, Calls Tryd.prog 91 #[.int .u32 L, .int .i64 17] W fun e w' => e = .returned (.int .u32 (Dp.rotr 17 L : Nat)) ∧ ∃ n, w' = W.drewN n) := fun W => refTurn_any W L 17 hL (by decide) (by decide)
          have T4 : Hid (∀ W, Calls Tryd.prog 91 #[.int .u32 L, .int .i64 19] W fun e w' => e = .returned (.int .u32 (Dp.rotr 19 L : Nat)) ∧ ∃ n, w' = W.drewN n) := fun W => refTurn_any W L 19 hL (by decide) (by decide)
          have e1 : bits .xor .u32 (bits .xor .u32 ((Dp.rotr 7 E : Nat) : Int) ((Dp.rotr 18 E : Nat) : Int)) ((E : Int) / 8) = ((Dp.lil 7 18 3 E : Nat) : Int) := by
            rw [← lil_nat E 7 18 3 hE, Int.natCast_ediv]; rfl
          have e2 : bits .xor .u32 (bits .xor .u32 ((Dp.rotr 17 L : Nat) : Int) ((Dp.rotr 19 L : Nat) : Int)) ((L : Int) / 1024) = ((Dp.lil 17 19 10 L : Nat) : Int) := by
            rw [← lil_nat L 17 19 10 hL, Int.natCast_ediv]; rfl
          have l1 := Dp.lil_lt (i := 7) (j := 18) (k := 3) hE
          have l2 := Dp.lil_lt (i := 17) (j := 19) (k := 10) hL
          have HOWN := mkH hown
          have HBEL := mkH hbel
          clear hlt2 hcl hown hbel
          go_wp2_with fail
          go_quiet ((first | (go_at_call_of 91 (Value.int IntKind.i64 7); exact Calls.quiet_of (T1.out _)) | (go_at_call_of 91 (Value.int IntKind.i64 18); exact Calls.quiet_of (T2.out _))))
          go_wp2_with fail
          obtain ⟨w4, hw4⟩ : ∃ w4, w4 = wr.drewN nq := ⟨_, rfl⟩
          rw [← hw4]
          have c14' : w4.cell? ⟨g, k - 2, none⟩ = some (.int .u32 (L : Int)) := by rw [hw4]; exact c14
          have c0' : w4.cell? ⟨g, k - 16, none⟩ = some (.int .u32 (A : Int)) := by rw [hw4]; exact c0
          have c9' : w4.cell? ⟨g, k - 7, none⟩ = some (.int .u32 (B : Int)) := by rw [hw4]; exact c9
          have HOWN4 : Hid (w4.ownsRow w.heap.size 137 1 (.slice (some ⟨g, 0, none⟩) k cap3) k (W32 (Dp.sch blk k))) := by rw [hw4]; exact HOWN.out
          have HBEL4 : Hid (Below w.heap.size w w4) := by rw [hw4]; exact below_drewN HBEL.out nq
          clear hw4 c0 c1 c9 c14 HOWN HBEL T1 T2 e1
          go_quiet ((first | (go_at_call_of 91 (Value.int IntKind.i64 17); exact Calls.quiet_of (T3.out _)) | (go_at_call_of 91 (Value.int IntKind.i64 19); exact Calls.quiet_of (T4.out _))))
          go_wp2_with fail
          obtain ⟨w5, hw5⟩ : ∃ w5, w5 = w4.drewN nq := ⟨_, rfl⟩
          rw [← hw5]
          have c0 : w5.cell? ⟨g, k - 16, none⟩ = some (.int .u32 (A : Int)) := by rw [hw5]; exact c0'
          have c9 : w5.cell? ⟨g, k - 7, none⟩ = some (.int .u32 (B : Int)) := by rw [hw5]; exact c9'
          have hown : w5.ownsRow w.heap.size 137 1 (.slice (some ⟨g, 0, none⟩) k cap3) k (W32 (Dp.sch blk k)) := by rw [hw5]; exact HOWN4.out
          have hbel : Below w.heap.size w w5 := by rw [hw5]; exact below_drewN HBEL4.out nq
          clear hw5 c14' c0' c9' HOWN4 HBEL4 T3 T4 e2
          have hsz := hbel.size
          have y1 : IntKind.i64.wrap ((k : Int) - 16) = ((k - 16 : Nat) : Int) := by simp [IntKind.wrap, IntKind.bits, IntKind.signed]; omega
          have y2 : IntKind.i64.wrap ((k : Int) - 7) = ((k - 7 : Nat) : Int) := by simp [IntKind.wrap, IntKind.bits, IntKind.signed]; omega
          obtain ⟨a0, ha0⟩ : ∃ a0, k - 16 = a0 := ⟨_, rfl⟩
          obtain ⟨a7, ha7⟩ : ∃ a7, k - 7 = a7 := ⟨_, rfl⟩
          rw [ha0] at y1 c0
          rw [ha7] at y2 c9
          have i2 : (a0 : Int) < (k : Int) := by omega
          have i4 : (a7 : Int) < (k : Int) := by omega
          obtain ⟨p, hp⟩ : ∃ p, Dp.lil 7 18 3 E = p := ⟨_, rfl⟩
          obtain ⟨q, hq⟩ : ∃ q, Dp.lil 17 19 10 L = q := ⟨_, rfl⟩
          rw [hp] at l1 HN ⊢
          rw [hq] at l2 HN ⊢
          obtain ⟨s1, hs1⟩ : ∃ s, (A + p) % 4294967296 = s := ⟨_, rfl⟩
          obtain ⟨s2, hs2⟩ : ∃ s, (s1 + B) % 4294967296 = s := ⟨_, rfl⟩
          obtain ⟨X, hX⟩ : ∃ s, (s2 + q) % 4294967296 = s := ⟨_, rfl⟩
          have g1 : IntKind.u32.wrap ((A : Int) + (p : Int)) = (s1 : Int) := by rw [IntKind.wrap_u32']; omega
          have g2 : IntKind.u32.wrap ((s1 : Int) + (B : Int)) = (s2 : Int) := by rw [IntKind.wrap_u32']; omega
          have g3 : IntKind.u32.wrap ((s2 : Int) + (q : Int)) = (X : Int) := by rw [IntKind.wrap_u32']; omega
          have hXe : Dp.add (Dp.add (Dp.add A B) p) q = X := by simp only [Dp.add]; omega
          rw [hXe] at HN
          have ka0 := hown.cells (g := g) rfl
          have HU0 : Hid (∀ j u, w5.cell? ⟨g, j, none⟩ = some u → j < k → (W32 (Dp.sch blk k))[j]? = some u) := by
            intro j u hu hj
            have h1 := World.ownsRow.cellAt hown j (by omega)
            rw [hu] at h1
            exact h1.symm
          have z0 := HU0.out a0 _ c0 (by omega)
          have z7 := HU0.out a7 _ c9 (by omega)
          have Z0 := mkH z0
          have Z7 := mkH z7
          clear ka0 HU0 z0 z7 ha0 ha7 hp hq hs1 hs2 hX hXe
          go_region_held3 (fun w' => w'.cell? ⟨g, a0, none⟩ = some (.int .u32 (A : Int)) ∧ w'.cell? ⟨g, a7, none⟩ = some (.int .u32 (B : Int))) (first | go_keep | exact hkeep) (first
            | (refine atApp (.tmp 92) (.tmp 108) 138 138 ?_ ?_; rfl; refine step_append_keep (by rfl) (.tmp 92) (.tmp 108) 138 138 (by rfl) w.heap.size 137 (.int .u32 0) 1 4 Tryd.underlying138 info38 (by rfl) (by decide) (.slice (some ⟨g, 0, none⟩) k cap3) k (W32 (Dp.sch blk k)) (by rfl) (by exact (hown.alloc _).drew) (.slice (some ⟨w5.heap.size, 0, none⟩) 1 1) 1 [.int .u32 (X : Int)] (by rfl) (by exact src_valD Tryd.underlying138 w5 (.int .u32 (X : Int)) rfl) (by unfold maxLen; omega) (by omega) (by simp; omega) ?_; intro v2 u2 hown2 hgrow2 hkp2; have hbel2 : Below w.heap.size w u2 := (by exact below_own (hown.alloc _).drew hgrow2 (hbel.alloc hsz _).drew (by simp; omega)); have hkeep := And.intro (hkp2 g rfl a0 _ Z0.out) (hkp2 g rfl a7 _ Z7.out)))
          have hown3 := own_snocW hown2
          rw [← HN.out] at hown3
          clear hown2 hgrow2 hown hbel hkeep HN hkp2 c0 c9 Z0 Z7
          go_wp2_with fail
          refine ⟨?_, ?measure⟩
          (repeat apply Exists.intro)
          refine ⟨?rel, rfl⟩
          case rel => exact ⟨k + 1, by omega, by omega, by go_num, hown3, hbel2⟩
          case measure => simp [intOf]; omega
    · have t0 : decide ((k : Int) < 16) = true := by simp; omega
      have hk0 : (k : Int) < 16 := by omega
      have hsz := hbel.size
      have HC := mkH (fun i (hi : i < 64) (W : World) (hW : Below w.heap.size w W) => (hW.cell (p := ⟨b, off + i, none⟩) hbw).trans (hc i hi))
      obtain ⟨i0, hi0⟩ : ∃ i, 4 * k = i := ⟨_, rfl⟩
      obtain ⟨i1, hi1⟩ : ∃ i, 4 * k + 1 = i := ⟨_, rfl⟩
      obtain ⟨i2, hi2⟩ : ∃ i, 4 * k + 2 = i := ⟨_, rfl⟩
      obtain ⟨i3, hi3⟩ : ∃ i, 4 * k + 3 = i := ⟨_, rfl⟩
      have w0 : IntKind.i64.wrap (4 * (k : Int)) = (i0 : Int) := by simp [IntKind.wrap, IntKind.bits, IntKind.signed]; omega
      have w1 : IntKind.i64.wrap ((i0 : Int) + 1) = (i1 : Int) := by simp [IntKind.wrap, IntKind.bits, IntKind.signed]; omega
      have w2 : IntKind.i64.wrap ((i0 : Int) + 2) = (i2 : Int) := by simp [IntKind.wrap, IntKind.bits, IntKind.signed]; omega
      have w3 : IntKind.i64.wrap ((i0 : Int) + 3) = (i3 : Int) := by simp [IntKind.wrap, IntKind.bits, IntKind.signed]; omega
      have b0 : (i0 : Int) < 64 := by omega
      have b1 : (i1 : Int) < 64 := by omega
      have b2 : (i2 : Int) < 64 := by omega
      have b3 : (i3 : Int) < 64 := by omega
      have hS := fun (W : World) (hW : Below w.heap.size w W) => And.intro (HC.out i0 (by omega) W hW) (And.intro (HC.out i1 (by omega) W hW) (And.intro (HC.out i2 (by omega) W hW) (HC.out i3 (by omega) W hW)))
      have HX : Hid (Dp.sch blk (k + 1) = Dp.sch blk k ++ [(blk.getD i0 0).toNat * 16777216 + (blk.getD i1 0).toNat * 65536 + (blk.getD i2 0).toNat * 256 + (blk.getD i3 0).toNat]) := by
        unfold Hid
        rw [Dp.sch, Dp.grow, if_pos (by omega), Dp.word, hi1, hi2, hi3, hi0]
      have l0 := (blk.getD i0 0).toNat_lt
      have l1 := (blk.getD i1 0).toNat_lt
      have l2 := (blk.getD i2 0).toNat_lt
      have l3 := (blk.getD i3 0).toNat_lt
      generalize (blk.getD i0 0).toNat = c0 at hS HX l0
      generalize (blk.getD i1 0).toNat = c1 at hS HX l1
      generalize (blk.getD i2 0).toNat = c2 at hS HX l2
      generalize (blk.getD i3 0).toNat = c3 at hS HX l3
      have f0 : IntKind.u32.wrap ((c0 : Int) * 16777216) = ((c0 * 16777216 : Nat) : Int) := by rw [IntKind.wrap_u32']; omega
      have f1 : IntKind.u32.wrap ((c1 : Int) * 65536) = ((c1 * 65536 : Nat) : Int) := by rw [IntKind.wrap_u32']; omega
      have f2 : IntKind.u32.wrap ((c2 : Int) * 256) = ((c2 * 256 : Nat) : Int) := by rw [IntKind.wrap_u32']; omega
      obtain ⟨m0, hm0⟩ : ∃ m, c0 * 16777216 = m := ⟨_, rfl⟩
      obtain ⟨m1, hm1⟩ : ∃ m, c1 * 65536 = m := ⟨_, rfl⟩
      obtain ⟨m2, hm2⟩ : ∃ m, c2 * 256 = m := ⟨_, rfl⟩
      obtain ⟨X, hX⟩ : ∃ X, m0 + m1 + m2 + c3 = X := ⟨_, rfl⟩
      obtain ⟨s1, hs1⟩ : ∃ s, m0 + m1 = s := ⟨_, rfl⟩
      obtain ⟨s2, hs2⟩ : ∃ s, m0 + m1 + m2 = s := ⟨_, rfl⟩
      have g1 : IntKind.u32.wrap ((m0 : Int) + (m1 : Int)) = (s1 : Int) := by rw [IntKind.wrap_u32']; omega
      have g2 : IntKind.u32.wrap ((s1 : Int) + (m2 : Int)) = (s2 : Int) := by rw [IntKind.wrap_u32']; omega
      have g3 : IntKind.u32.wrap ((s2 : Int) + (c3 : Int)) = (X : Int) := by rw [IntKind.wrap_u32']; omega
      rw [hm0] at f0
      rw [hm1] at f1
      rw [hm2] at f2
      rw [hm0, hm1, hm2, hX] at HX
      have d0 : IntKind.u32.wrap (c0 : Int) = (c0 : Int) := by rw [IntKind.wrap_u32']; omega
      have d1 : IntKind.u32.wrap (c1 : Int) = (c1 : Int) := by rw [IntKind.wrap_u32']; omega
      have d2 : IntKind.u32.wrap (c2 : Int) = (c2 : Int) := by rw [IntKind.wrap_u32']; omega
      have d3 : IntKind.u32.wrap (c3 : Int) = (c3 : Int) := by rw [IntKind.wrap_u32']; omega
      have HS := mkH hS
      obtain ⟨z0, z1, z2, z3⟩ := hS wr hbel
      clear hS hi0 hi1 hi2 hi3 hm0 hm1 hm2 hX hs1 hs2 hc hb HC
      go_wp2_with fail
      go_region_held3 (fun w' => w'.cell? ⟨b, off + i0, none⟩ = some (.int .u8 (c0 : Int)) ∧ w'.cell? ⟨b, off + i1, none⟩ = some (.int .u8 (c1 : Int)) ∧ w'.cell? ⟨b, off + i2, none⟩ = some (.int .u8 (c2 : Int)) ∧ w'.cell? ⟨b, off + i3, none⟩ = some (.int .u8 (c3 : Int))) (first | go_keep | exact hkeep) (first
        | (refine atApp (.tmp 12) (.tmp 46) 138 138 ?_ ?_; rfl; refine step_append_own_src (by rfl) (.tmp 12) (.tmp 46) 138 138 (by rfl) w.heap.size 137 (.int .u32 0) 1 4 Tryd.underlying138 info38 (by rfl) (by decide) (.slice ao2 k cap2) k (W32 (Dp.sch blk k)) (by rfl) (by exact (hown.alloc _).drew) (.slice (some ⟨wr.heap.size, 0, none⟩) 1 1) 1 [.int .u32 (X : Int)] (by rfl) (by exact src_valD Tryd.underlying138 wr (.int .u32 (X : Int)) rfl) (by unfold maxLen; omega) (by omega) (by simp; omega) ?_; intro v2 u2 hown2 hgrow2; have hbel2 : Below w.heap.size w u2 := (by exact below_own (hown.alloc _).drew hgrow2 (hbel.alloc hsz _).drew (by simp; omega)); have hkeep := HS.out u2 hbel2))
      have hown3 := own_snocW hown2
      rw [← HX.out] at hown3
      clear hown2 hgrow2 hown hbel hkeep HX HS z0 z1 z2 z3
      go_wp2_with fail
      refine ⟨⟨k + 1, by omega, by go_num, hown3, hbel2⟩, by simp [intOf]; omega⟩
end Go.Proofs.YtbemindfmghjdaaDoor.Dr2
