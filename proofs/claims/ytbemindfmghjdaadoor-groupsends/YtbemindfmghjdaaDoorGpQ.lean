/-
  The document's Expire.
-/
import Derived.Test.YtbemindfmghjdaaDoorGpX
import Derived.Deep.CutBlock
import Derived.Deep.DeepCutAuto
namespace Go.Proofs.YtbemindfmghjdaaDoor.Gq
open Go.RowKit Kt Ks Gf Gp Gr Gk Ga Gs Gb Gg Gn Gx
set_option linter.unusedVariables false
set_option linter.unusedSimpArgs false
set_option maxRecDepth 20000

theorem fil_yes {α : Type} (p : α → Bool) (l : List α) (j : Nat) (x : α) (hx : l[j]? = some x) (h : p x = true) : (l.take (j + 1)).filter p = (l.take j).filter p ++ [x] := by rw [filter_snoc p l j x hx, if_pos h]
theorem fil_no {α : Type} (p : α → Bool) (l : List α) (j : Nat) (x : α) (hx : l[j]? = some x) (h : p x = false) : (l.take (j + 1)).filter p = (l.take j).filter p := by rw [filter_snoc p l j x hx, h]; simp

set_option maxHeartbeats 8000000 in
theorem rexpire_any (w : World) (g : G) (ka : Option Addr) (kc : Nat) (ma : Option Addr) (mc : Nat) (h : Gl w g ka kc ma mc) (hk : g.kept.length ≤ 1000000) (hm : g.marks.length ≤ 1000000) (ho : OkG g) (now keep : Int) (hn : Sm now) :
    Calls Tryd.prog 14 #[.agg (gC g ka kc ma mc), .int .i64 now, .int .i64 keep] w fun e w' => ∃ ka' kc' ma' mc', e = .returned (.agg (gC (expire g now keep) ka' kc' ma' mc')) ∧ Go' w.heap.size w' (expire g now keep) ka' kc' ma' mc' ∧ Below w.heap.size w w' := by
  have HL := mkH h
  have HOk := mkH ho
  clear h ho
  have hmx : Tryd.prog.follows .mixedOrders = true := by kernel_rfl
  obtain ⟨nx, kp, mk, at'⟩ := g
  simp only [gC] at hk hm ⊢
  obtain ⟨g0, hg0⟩ : ∃ g0, #[Value.int .i64 nx, .slice ka kp.length kc, .slice ma mk.length mc, .string at'] = g0 := ⟨_, rfl⟩
  have HG0 := mkH hg0
  clear hg0
  have HFW : Hid (Fw w (((w.alloc (.cells #[Value.int .i64 nx, .slice ka kp.length kc, .slice ma mk.length mc, .string at'] 25)).alloc (.cells #[Value.int .i64 0, .slice none 0 0, .slice none 0 0, .string ⟨#[]⟩] 25)).alloc (.cells #[Value.int .i64 nx, .slice none 0 0, .slice none 0 0, .string at'] 25)) w.heap.size (w.heap.size + 1) (w.heap.size + 1 + 1) (w.heap.size + 1 + 1) nx at' #[Value.int .i64 nx, .slice ka kp.length kc, .slice ma mk.length mc, .string at'] [] [] none 0 none 0) := by
    refine ⟨Bx.new2 w _ _ _ _, (Bx.new1 w _ _ _).alloc _, ((Bx.new w _ _).alloc _).alloc _, by simpa [Fl] using World.ownsRow_nil _ _ _ _, by simpa [Fl] using World.ownsRow_nil _ _ _ _, (((Below.refl _ w).alloc (Nat.le_refl _) _).alloc (by simp) _).alloc (by simp; omega) _⟩
  go_enter Tryd.func14, Tryd.ntmps14
  go_upto_block 0 with fail
  generalize ((w.alloc (.cells #[Value.int .i64 nx, .slice ka kp.length kc, .slice ma mk.length mc, .string at'] 25)).alloc (.cells #[Value.int .i64 0, .slice none 0 0, .slice none 0 0, .string ⟨#[]⟩] 25)).alloc (.cells #[Value.int .i64 nx, .slice none 0 0, .slice none 0 0, .string at'] 25) = w0 at *
  obtain ⟨O, hO⟩ : ∃ O, w.heap.size + 1 + 1 = O := ⟨_, rfl⟩
  rw [hO] at HFW ⊢
  obtain ⟨R, hR⟩ : ∃ R, w.heap.size + 1 = R := ⟨_, rfl⟩
  rw [hR] at HFW ⊢
  have o1 : w.heap.size ≤ O := by omega
  have o2 : O ≠ R := by omega
  have o3 : O ≠ w.heap.size := by omega
  have r1 : w.heap.size < R := by omega
  have HCo : Hid (Fw w w0 w.heap.size R O O nx at' g0 [] [] none 0 none 0) := by have := HFW.out; rw [HG0.out] at this; exact this
  clear hO hR HFW
  have HFW := HCo
  clear HCo
  go_cut [8] (fun _ WW => ∃ (ka2 : Option Addr) (kc2 : Nat), Fw w WW w.heap.size R O O nx at' g0 (kp.filter (fun m => !decide (keep ≤ now - m.sent))) [] ka2 kc2 none 0)
  case first =>
    go_wp2_with fail
    go_loopw [8] (fun i WW => ∃ (j : Nat) (kl : List K) (ka2 : Option Addr) (kc2 : Nat), j ≤ kp.length ∧ i = .int .i64 (j : Int) ∧ Hid ((kp.take j).filter (fun m => !decide (keep ≤ now - m.sent)) = kl) ∧ kl.length ≤ j ∧ Hid (Fw w WW w.heap.size R O O nx at' g0 kl [] ka2 kc2 none 0)) (fun i _ => kp.length - (intOf i).toNat)
    case atStart => exact ⟨0, [], none, 0, Nat.zero_le _, rfl, mkH rfl, Nat.le_refl _, HFW⟩
    case round =>
      obtain ⟨j, kl, ka2, kc2, hj, rfl, HKL, hkl, HW⟩ := hrel
      have hb0 := HW.out.b
      rw [← HG0.out] at hb0
      obtain ⟨m0, m1, m2, m3, -⟩ := hb0.four
      have hB0 := hb0.lt
      clear hb0
      rcases Nat.lt_or_ge j kp.length with hjl | hjl
      · obtain ⟨x, hx⟩ := some_of hjl
        have hrow := HL.out.k.below HW.out.bl
        obtain ⟨b, off, hbo, z0, z1, z2, z3, z4, z5⟩ := atK hrow hx
        have hbw0 : b < w.heap.size := by
          obtain ⟨b', off', hbo', hcc⟩ := HL.out.k (show 0 < kp.length by omega)
          rw [hbo] at hbo'
          simp only [Option.some.injEq, Addr.mk.injEq] at hbo'
          obtain ⟨rfl, rfl, -⟩ := hbo'
          exact World.block_lt_of_cell? w _ (hcc j x hx 0 _ rfl)
        have hbw : b < wr.heap.size := Nat.lt_of_lt_of_le hbw0 HW.out.bl.size
        have hokx := (HOk.out.2.1 x (List.mem_of_getElem? hx)).2.1
        have HX := mkH hx
        obtain ⟨x0, x1, x2, x3, x4, x5⟩ := x
        simp only at z0 z1 z2 z3 z4 z5 hokx
        have b1 : -9223372036854775808 ≤ now - x1 := by unfold Sm at hn hokx; omega
        have b2 : now - x1 ≤ 9223372036854775807 := by unfold Sm at hn hokx; omega
        have jz : (j : Int) < (kp.length : Int) := by omega
        subst hbo
        clear hx hokx hrow
        by_cases hkp : now - x1 < keep
        · have t1 : decide (now - x1 < keep) = true := by simpa using hkp
          have HMS := mkH (fil_yes (fun m : K => !decide (keep ≤ now - m.sent)) kp j ⟨x0, x1, x2, x3, x4, x5⟩ HX.out (by simp; omega))
          go_upto_region 6 with fail
          have HKS : Hid (∀ W : World, W.heap[w.heap.size]? = wr.heap[w.heap.size]? → W.heap[b]? = wr.heap[b]? → W.cell? ⟨w.heap.size, 1, none⟩ = some (.slice (some ⟨b, off, none⟩) kp.length kc) ∧ W.cell? ⟨b, off + j * 6, none⟩ = some (.int .i64 x0) ∧ W.cell? ⟨b, off + j * 6 + 1, none⟩ = some (.int .i64 x1) ∧ W.cell? ⟨b, off + j * 6 + 2, none⟩ = some (.int .i64 x2) ∧ W.cell? ⟨b, off + j * 6 + 3, none⟩ = some (.int .i64 x3) ∧ W.cell? ⟨b, off + j * 6 + 4, none⟩ = some (.int .i64 x4) ∧ W.cell? ⟨b, off + j * 6 + 5, none⟩ = some (.string x5)) := fun W h1 h2 =>
            ⟨by rw [World.cell?_of_block (w := wr) (a := ⟨w.heap.size, 1, none⟩) h1]; exact m1, by rw [World.cell?_of_block (w := wr) (a := ⟨b, off + j * 6, none⟩) h2]; exact z0, by rw [World.cell?_of_block (w := wr) (a := ⟨b, off + j * 6 + 1, none⟩) h2]; exact z1, by rw [World.cell?_of_block (w := wr) (a := ⟨b, off + j * 6 + 2, none⟩) h2]; exact z2, by rw [World.cell?_of_block (w := wr) (a := ⟨b, off + j * 6 + 3, none⟩) h2]; exact z3, by rw [World.cell?_of_block (w := wr) (a := ⟨b, off + j * 6 + 4, none⟩) h2]; exact z4, by rw [World.cell?_of_block (w := wr) (a := ⟨b, off + j * 6 + 5, none⟩) h2]; exact z5⟩
          have hal : Below wr.heap.size wr ((wr.alloc (.cells #[Value.int .i64 x0, .int .i64 x1, .int .i64 x2, .int .i64 x3, .int .i64 x4, .string x5] 64)).drew) := ((Below.refl _ wr).alloc (Nat.le_refl _) _).drew
          have HW2 := mkH (HW.out.below hal)
          have HS : Hid (Src Tryd.prog 6 22 (.slice (some ⟨wr.heap.size, 0, none⟩) 1 1) 1 (Fk [⟨x0, x1, x2, x3, x4, x5⟩]) ((wr.alloc (.cells #[Value.int .i64 x0, .int .i64 x1, .int .i64 x2, .int .i64 x3, .int .i64 x4, .string x5] 64)).drew)) := newK wr.drew ⟨x0, x1, x2, x3, x4, x5⟩ 64
          have o1' := HW.out.o.four.2.1
          have o2' := HW2.out.o.four.2.1
          have hOw := HW.out.o.lt
          have nB0 : w.heap.size ≠ O := fun e => o3 e.symm
          have nb : b ≠ O := by omega
          obtain ⟨kq, hkq⟩ : ∃ kq, kl ++ [(⟨x0, x1, x2, x3, x4, x5⟩ : K)] = kq := ⟨_, rfl⟩
          have HKQ := mkH hkq
          have hkql : kl.length + 1 = kq.length := by rw [← hkq]; simp
          have HEND : Hid (∀ v6 w6, w6.ownsRow O 64 6 v6 (kl.length + 1) (Fk kl ++ Fk [⟨x0, x1, x2, x3, x4, x5⟩]) → ((wr.alloc (.cells #[Value.int .i64 x0, .int .i64 x1, .int .i64 x2, .int .i64 x3, .int .i64 x4, .string x5] 64)).drew).grownBy w6 (Value.slice ka2 kl.length kc2).ownBlock → ∃ a6 c6, v6 = .slice a6 (kl.length + 1) c6 ∧ Fw w (w6.setCell ⟨O, 1, none⟩ (.slice a6 (kl.length + 1) c6)) w.heap.size R O O nx at' g0 kq [] a6 c6 none 0 ∧ w6.cell? ⟨O, 1, none⟩ = some (.slice ka2 kl.length kc2) ∧ w6.frozen? ⟨O, 1, none⟩ = false ∧ w6.heap[w.heap.size]? = wr.heap[w.heap.size]? ∧ w6.heap[b]? = wr.heap[b]?) := fun v6 w6 ho6 hg6 => by
            obtain ⟨a6, c6, rfl⟩ := own_form ho6
            rw [show Fk kl ++ Fk [⟨x0, x1, x2, x3, x4, x5⟩] = Fk (kl ++ [⟨x0, x1, x2, x3, x4, x5⟩]) from (Fl_append _ _).symm, show kl.length + 1 = (kl ++ [(⟨x0, x1, x2, x3, x4, x5⟩ : K)]).length by simp] at ho6
            obtain ⟨q1, q2, q3⟩ := HW2.out.addK o2 o3 o1 o1 hg6 ho6
            rw [hkq, ← hkql] at q1
            have hlow : ∀ B, B < wr.heap.size → B < O → w6.heap[B]? = wr.heap[B]? := fun B hB hBO => by
              rw [(fr_grown hg6).heap (by simp; omega) (fun hk => by have := (HW2.out.k.lt B hk).1; omega)]
              exact Below.heap_alloc wr _ _ hB
            exact ⟨a6, c6, rfl, q1, q2, q3, hlow _ hB0 (by omega), hlow _ hbw (by omega)⟩
          have HRW := mkH HW2.out.k
          clear hal hkq HW2 HW m0 m1 m2 m3 z0 z1 z2 z3 z4 z5
          refine wp_region_held_drew (S := fun W => W.cell? ⟨w.heap.size, 1, none⟩ = some (.slice (some ⟨b, off, none⟩) kp.length kc) ∧ W.cell? ⟨b, off + j * 6, none⟩ = some (.int .i64 x0) ∧ W.cell? ⟨b, off + j * 6 + 1, none⟩ = some (.int .i64 x1) ∧ W.cell? ⟨b, off + j * 6 + 2, none⟩ = some (.int .i64 x2) ∧ W.cell? ⟨b, off + j * 6 + 3, none⟩ = some (.int .i64 x3) ∧ W.cell? ⟨b, off + j * 6 + 4, none⟩ = some (.int .i64 x4) ∧ W.cell? ⟨b, off + j * 6 + 5, none⟩ = some (.string x5)) hmx ?_ (fun hHeld => ?_)
          · exact HKS.out _ rfl rfl
          refine wpAnyH_take (i := 0) (oi := { dst := some 32, op := _, type := _, pos := _, after := _, guard := _ }) (v := ?_) rfl (by kernel_rfl) (by kernel_rfl) (by kernel_rfl) (fun _ _ _ h => h) (Or.inl ⟨by rfl, ?_⟩) (by assumption) ?_
          rotate_left
          · (intro W hSw; (try dsimp only at hSw); go_simp; try (with_reducible rfl))
          try simp only [Act.put, List.setIfInBounds_toArray, List.set_cons_zero, List.set_cons_succ]
          refine wpAnyH_take (i := 2) (oi := { dst := some 34, op := _, type := _, pos := _, after := _, guard := _ }) (v := ?_) rfl (by kernel_rfl) (by kernel_rfl) (by kernel_rfl) (fun _ _ _ h => h) (Or.inl ⟨by rfl, ?_⟩) (by assumption) ?_
          rotate_left
          · (intro W hSw; (try dsimp only at hSw); go_simp; try (with_reducible rfl))
          try simp only [Act.put, List.setIfInBounds_toArray, List.set_cons_zero, List.set_cons_succ]
          refine wpAnyH_take (i := 3) (oi := { dst := some 35, op := _, type := _, pos := _, after := _, guard := _ }) (v := ?_) rfl (by kernel_rfl) (by kernel_rfl) (by kernel_rfl) (fun _ _ _ h => h) (Or.inl ⟨by rfl, ?_⟩) (by assumption) ?_
          rotate_left
          · (intro W hSw; (try dsimp only at hSw); go_simp; try (with_reducible rfl))
          try simp only [Act.put, List.setIfInBounds_toArray, List.set_cons_zero, List.set_cons_succ]
          refine wpAnyH_take (i := 4) (oi := { dst := some 36, op := _, type := _, pos := _, after := _, guard := _ }) (v := ?_) rfl (by kernel_rfl) (by kernel_rfl) (by kernel_rfl) (fun _ _ _ h => h) (Or.inl ⟨by rfl, ?_⟩) (by assumption) ?_
          rotate_left
          · (intro W hSw; (try dsimp only at hSw); go_simp; try (with_reducible rfl))
          try simp only [Act.put, List.setIfInBounds_toArray, List.set_cons_zero, List.set_cons_succ]
          refine wpAnyH_take (i := 5) (oi := { dst := some 37, op := _, type := _, pos := _, after := _, guard := _ }) (v := ?_) rfl (by kernel_rfl) (by kernel_rfl) (by kernel_rfl) (fun _ _ _ h => h) (Or.inl ⟨by rfl, ?_⟩) (by assumption) ?_
          rotate_left
          · (intro W hSw; (try dsimp only at hSw); go_simp; try (with_reducible rfl))
          try simp only [Act.put, List.setIfInBounds_toArray, List.set_cons_zero, List.set_cons_succ]
          refine wpAnyH_take (i := 6) (oi := { dst := some 38, op := _, type := _, pos := _, after := _, guard := _ }) (v := ?_) rfl (by kernel_rfl) (by kernel_rfl) (by kernel_rfl) (fun _ _ _ h => h) (Or.inl ⟨by rfl, ?_⟩) (by assumption) ?_
          rotate_left
          · (intro W hSw; (try dsimp only at hSw); go_simp; try (with_reducible rfl))
          try simp only [Act.put, List.setIfInBounds_toArray, List.set_cons_zero, List.set_cons_succ]
          refine wpAnyH_ready (rs := [1, 7]) (by kernel_rfl) (by simp) ?_
          refine (AllReadyH.cons (o := { dst := some 33, op := _, type := _, pos := _, after := _, guard := _ }) rfl (fun K hK => ?_) (AllReadyH.cons (o := { dst := some 39, op := _, type := _, pos := _, after := _, guard := _ }) rfl (fun K hK => ?_) AllReadyH.nil))
          · go_simp
            refine hK.out _ _ ?_ (fun hHeld => ?_)
            · exact HKS.out _ rfl rfl
            clear hK K
            try simp only [Act.put, List.setIfInBounds_toArray, List.set_cons_zero, List.set_cons_succ]
            refine wpAnyH_ready (rs := [7]) (by kernel_rfl) (by simp) ?_
            refine AllReadyH.cons (o := { dst := some 39, op := _, type := _, pos := _, after := _, guard := _ }) rfl (fun K hK => ?_) AllReadyH.nil
            go_simp
            refine hK.out _ _ ?_ (fun hHeld => ?_)
            · exact HKS.out _ (Below.heap_alloc wr _ _ hB0) (Below.heap_alloc wr _ _ hbw)
            clear hK K
            try simp only [Act.put, List.setIfInBounds_toArray, List.set_cons_zero, List.set_cons_succ]
            refine wpAnyH_ready (rs := [8]) (by kernel_rfl) (by simp) ?_
            refine AllReadyH.cons (o := { dst := some 40, op := _, type := _, pos := _, after := _, guard := _ }) rfl (fun K hK => ?_) AllReadyH.nil
            refine step_append_own_src (by rfl) (.tmp 33) (.tmp 39) 22 22 (by rfl) O 64 _ 6 56 Tryd.underlying22 infoK (by rfl) (by decide) (.slice ka2 kl.length kc2) kl.length (Fk kl) (by rfl) HRW.out (.slice (some ⟨wr.heap.size, 0, none⟩) 1 1) 1 (Fk [⟨x0, x1, x2, x3, x4, x5⟩]) (by rfl) HS.out (by unfold maxLen; omega) (by omega) (by simp; omega) ?_
            intro v6 w6 ho6 hg6
            obtain ⟨a6, c6, rfl, hq1, hq2, hq3, hq4, hq5⟩ := HEND.out v6 w6 ho6 hg6
            have HQ1 := mkH hq1
            clear hq1 ho6 hg6
            refine hK.out _ _ ?_ (fun hHeld => ?_)
            · exact HKS.out _ hq4 hq5
            clear hK K
            try simp only [Act.put, List.setIfInBounds_toArray, List.set_cons_zero, List.set_cons_succ]
            refine wpAnyH_take (i := 9) (oi := { dst := some 41, op := _, type := _, pos := _, after := _, guard := _ }) (v := ?_) rfl (by kernel_rfl) (by kernel_rfl) (by kernel_rfl) (fun _ _ _ h => h) (Or.inl ⟨by rfl, ?_⟩) (by assumption) ?_
            rotate_left
            · (intro W hSw; (try dsimp only at hSw); go_simp; try (with_reducible rfl))
            try simp only [Act.put, List.setIfInBounds_toArray, List.set_cons_zero, List.set_cons_succ]
            refine wpAnyH_ready (rs := [10]) (by kernel_rfl) (by simp) ?_
            refine AllReadyH.cons (o := { dst := none, op := _, type := _, pos := _, after := _, guard := _ }) rfl (fun K hK => ?_) AllReadyH.nil
            go_simp
            refine hK.out _ _ ?_ (fun hHeld => ?_)
            · exact HKS.out _ ((heap_setCell_other _ _ _ _ nB0).trans hq4) ((heap_setCell_other _ _ _ _ nb).trans hq5)
            clear hK K
            try simp only [Act.put, List.setIfInBounds_toArray, List.set_cons_zero, List.set_cons_succ]
            refine wpAnyH_done (by kernel_rfl) ?_ _
            go_wp2
            go_roundw
            case rel => exact ⟨j + 1, kq, a6, c6, by omega, by go_num, by unfold Hid; rw [HMS.out, HKL.out]; exact HKQ.out, by omega, by have := HQ1.out; rw [hkql] at this; exact this⟩
            case measure => simp [intOf]; omega
          · go_simp
            refine hK.out _ _ ?_ (fun hHeld => ?_)
            · exact HKS.out _ (Below.heap_alloc wr _ _ hB0) (Below.heap_alloc wr _ _ hbw)
            clear hK K
            try simp only [Act.put, List.setIfInBounds_toArray, List.set_cons_zero, List.set_cons_succ]
            refine wpAnyH_ready (rs := [1]) (by kernel_rfl) (by simp) ?_
            refine AllReadyH.cons (o := { dst := some 33, op := _, type := _, pos := _, after := _, guard := _ }) rfl (fun K hK => ?_) AllReadyH.nil
            go_simp
            refine hK.out _ _ ?_ (fun hHeld => ?_)
            · exact HKS.out _ (Below.heap_alloc wr _ _ hB0) (Below.heap_alloc wr _ _ hbw)
            clear hK K
            try simp only [Act.put, List.setIfInBounds_toArray, List.set_cons_zero, List.set_cons_succ]
            refine wpAnyH_ready (rs := [8]) (by kernel_rfl) (by simp) ?_
            refine AllReadyH.cons (o := { dst := some 40, op := _, type := _, pos := _, after := _, guard := _ }) rfl (fun K hK => ?_) AllReadyH.nil
            refine step_append_own_src (by rfl) (.tmp 33) (.tmp 39) 22 22 (by rfl) O 64 _ 6 56 Tryd.underlying22 infoK (by rfl) (by decide) (.slice ka2 kl.length kc2) kl.length (Fk kl) (by rfl) HRW.out (.slice (some ⟨wr.heap.size, 0, none⟩) 1 1) 1 (Fk [⟨x0, x1, x2, x3, x4, x5⟩]) (by rfl) HS.out (by unfold maxLen; omega) (by omega) (by simp; omega) ?_
            intro v6 w6 ho6 hg6
            obtain ⟨a6, c6, rfl, hq1, hq2, hq3, hq4, hq5⟩ := HEND.out v6 w6 ho6 hg6
            have HQ1 := mkH hq1
            clear hq1 ho6 hg6
            refine hK.out _ _ ?_ (fun hHeld => ?_)
            · exact HKS.out _ hq4 hq5
            clear hK K
            try simp only [Act.put, List.setIfInBounds_toArray, List.set_cons_zero, List.set_cons_succ]
            refine wpAnyH_take (i := 9) (oi := { dst := some 41, op := _, type := _, pos := _, after := _, guard := _ }) (v := ?_) rfl (by kernel_rfl) (by kernel_rfl) (by kernel_rfl) (fun _ _ _ h => h) (Or.inl ⟨by rfl, ?_⟩) (by assumption) ?_
            rotate_left
            · (intro W hSw; (try dsimp only at hSw); go_simp; try (with_reducible rfl))
            try simp only [Act.put, List.setIfInBounds_toArray, List.set_cons_zero, List.set_cons_succ]
            refine wpAnyH_ready (rs := [10]) (by kernel_rfl) (by simp) ?_
            refine AllReadyH.cons (o := { dst := none, op := _, type := _, pos := _, after := _, guard := _ }) rfl (fun K hK => ?_) AllReadyH.nil
            go_simp
            refine hK.out _ _ ?_ (fun hHeld => ?_)
            · exact HKS.out _ ((heap_setCell_other _ _ _ _ nB0).trans hq4) ((heap_setCell_other _ _ _ _ nb).trans hq5)
            clear hK K
            try simp only [Act.put, List.setIfInBounds_toArray, List.set_cons_zero, List.set_cons_succ]
            refine wpAnyH_done (by kernel_rfl) ?_ _
            go_wp2
            go_roundw
            case rel => exact ⟨j + 1, kq, a6, c6, by omega, by go_num, by unfold Hid; rw [HMS.out, HKL.out]; exact HKQ.out, by omega, by have := HQ1.out; rw [hkql] at this; exact this⟩
            case measure => simp [intOf]; omega
        · have t1 : decide (now - x1 < keep) = false := by simpa using hkp
          have HMS := mkH (fil_no (fun m : K => !decide (keep ≤ now - m.sent)) kp j ⟨x0, x1, x2, x3, x4, x5⟩ HX.out (by simp; omega))
          go_wp2
          go_roundw
          case rel => exact ⟨j + 1, kl, ka2, kc2, by omega, by go_num, by unfold Hid; rw [HMS.out]; exact HKL.out, by omega, HW⟩
          case measure => simp [intOf]; omega
      · obtain rfl : j = kp.length := by omega
        go_wp2_with fail
        go_meet
        case rel => exact ⟨ka2, kc2, by have := HW.out; rw [← HKL.out, List.take_length] at this; exact this⟩
  case rest =>
    obtain ⟨kaf, kcf, hF2⟩ := hcut
    obtain ⟨kfin, hkf⟩ : ∃ l, kp.filter (fun m => !decide (keep ≤ now - m.sent)) = l := ⟨_, rfl⟩
    rw [hkf] at hF2
    have HKF := mkH hkf
    have HF2 := mkH hF2
    clear hF2 hkf HFW
    go_wp2_with fail
    go_loopw [9] (fun i WW => ∃ (j : Nat) (kl : List M) (ma2 : Option Addr) (mc2 : Nat), j ≤ mk.length ∧ i = .int .i64 (j : Int) ∧ Hid ((mk.take j).filter (fun m => !decide (300 ≤ now - m.ti)) = kl) ∧ kl.length ≤ j ∧ Hid (Fw w WW w.heap.size R O O nx at' g0 kfin kl kaf kcf ma2 mc2)) (fun i _ => mk.length - (intOf i).toNat)
    case atStart => exact ⟨0, [], none, 0, Nat.zero_le _, rfl, mkH rfl, Nat.le_refl _, HF2⟩
    case round =>
      obtain ⟨j, kl, ma2, mc2, hj, rfl, HKL, hkl, HW⟩ := hrel
      have hb0 := HW.out.b
      rw [← HG0.out] at hb0
      obtain ⟨m0, m1, m2, m3, -⟩ := hb0.four
      have hB0 := hb0.lt
      clear hb0
      rcases Nat.lt_or_ge j mk.length with hjl | hjl
      · obtain ⟨x, hx⟩ := some_of hjl
        have hrow := HL.out.m.below HW.out.bl
        obtain ⟨b, off, hbo, z0, z1, z2⟩ := atM hrow hx
        have hbw0 : b < w.heap.size := by
          obtain ⟨b', off', hbo', hcc⟩ := HL.out.m (show 0 < mk.length by omega)
          rw [hbo] at hbo'
          simp only [Option.some.injEq, Addr.mk.injEq] at hbo'
          obtain ⟨rfl, rfl, -⟩ := hbo'
          exact World.block_lt_of_cell? w _ (hcc j x hx 0 _ rfl)
        have hbw : b < wr.heap.size := Nat.lt_of_lt_of_le hbw0 HW.out.bl.size
        have hokx := (HOk.out.2.2 x (List.mem_of_getElem? hx)).2
        have HX := mkH hx
        obtain ⟨x0, x1, x2⟩ := x
        simp only at z0 z1 z2 hokx
        have b1 : -9223372036854775808 ≤ now - x2 := by unfold Sm at hn hokx; omega
        have b2 : now - x2 ≤ 9223372036854775807 := by unfold Sm at hn hokx; omega
        have jz : (j : Int) < (mk.length : Int) := by omega
        subst hbo
        clear hx hokx hrow
        by_cases hkp : now - x2 < 300
        · have t1 : decide (now - x2 < 300) = true := by simpa using hkp
          have HMS := mkH (fil_yes (fun m : M => !decide (300 ≤ now - m.ti)) mk j ⟨x0, x1, x2⟩ HX.out (by simp; omega))
          go_upto_region 11 with fail
          have HKS : Hid (∀ W : World, W.heap[w.heap.size]? = wr.heap[w.heap.size]? → W.heap[b]? = wr.heap[b]? → W.cell? ⟨w.heap.size, 2, none⟩ = some (.slice (some ⟨b, off, none⟩) mk.length mc) ∧ W.cell? ⟨b, off + j * 3, none⟩ = some (.string x0) ∧ W.cell? ⟨b, off + j * 3 + 1, none⟩ = some (.int .i64 x1) ∧ W.cell? ⟨b, off + j * 3 + 2, none⟩ = some (.int .i64 x2)) := fun W h1 h2 =>
            ⟨by rw [World.cell?_of_block (w := wr) (a := ⟨w.heap.size, 2, none⟩) h1]; exact m2, by rw [World.cell?_of_block (w := wr) (a := ⟨b, off + j * 3, none⟩) h2]; exact z0, by rw [World.cell?_of_block (w := wr) (a := ⟨b, off + j * 3 + 1, none⟩) h2]; exact z1, by rw [World.cell?_of_block (w := wr) (a := ⟨b, off + j * 3 + 2, none⟩) h2]; exact z2⟩
          have hal : Below wr.heap.size wr ((wr.alloc (.cells #[Value.string x0, .int .i64 x1, .int .i64 x2] 70)).drew) := ((Below.refl _ wr).alloc (Nat.le_refl _) _).drew
          have HW2 := mkH (HW.out.below hal)
          have HS : Hid (Src Tryd.prog 3 23 (.slice (some ⟨wr.heap.size, 0, none⟩) 1 1) 1 (Fm [⟨x0, x1, x2⟩]) ((wr.alloc (.cells #[Value.string x0, .int .i64 x1, .int .i64 x2] 70)).drew)) := newM wr.drew ⟨x0, x1, x2⟩ 70
          have o1' := HW.out.o.four.2.2.1
          have o2' := HW2.out.o.four.2.2.1
          have hOw := HW.out.o.lt
          have nB0 : w.heap.size ≠ O := fun e => o3 e.symm
          have nb : b ≠ O := by omega
          obtain ⟨kq, hkq⟩ : ∃ kq, kl ++ [(⟨x0, x1, x2⟩ : M)] = kq := ⟨_, rfl⟩
          have HKQ := mkH hkq
          have hkql : kl.length + 1 = kq.length := by rw [← hkq]; simp
          have HEND : Hid (∀ v6 w6, w6.ownsRow O 70 3 v6 (kl.length + 1) (Fm kl ++ Fm [⟨x0, x1, x2⟩]) → ((wr.alloc (.cells #[Value.string x0, .int .i64 x1, .int .i64 x2] 70)).drew).grownBy w6 (Value.slice ma2 kl.length mc2).ownBlock → ∃ a6 c6, v6 = .slice a6 (kl.length + 1) c6 ∧ Fw w (w6.setCell ⟨O, 2, none⟩ (.slice a6 (kl.length + 1) c6)) w.heap.size R O O nx at' g0 kfin kq kaf kcf a6 c6 ∧ w6.cell? ⟨O, 2, none⟩ = some (.slice ma2 kl.length mc2) ∧ w6.frozen? ⟨O, 2, none⟩ = false ∧ w6.heap[w.heap.size]? = wr.heap[w.heap.size]? ∧ w6.heap[b]? = wr.heap[b]?) := fun v6 w6 ho6 hg6 => by
            obtain ⟨a6, c6, rfl⟩ := own_form ho6
            rw [show Fm kl ++ Fm [⟨x0, x1, x2⟩] = Fm (kl ++ [⟨x0, x1, x2⟩]) from (Fl_append _ _).symm, show kl.length + 1 = (kl ++ [(⟨x0, x1, x2⟩ : M)]).length by simp] at ho6
            obtain ⟨q1, q2, q3⟩ := HW2.out.addM o2 o3 o1 o1 hg6 ho6
            rw [hkq, ← hkql] at q1
            have hlow : ∀ B, B < wr.heap.size → B < O → w6.heap[B]? = wr.heap[B]? := fun B hB hBO => by
              rw [(fr_grown hg6).heap (by simp; omega) (fun hk => by have := (HW2.out.m.lt B hk).1; omega)]
              exact Below.heap_alloc wr _ _ hB
            exact ⟨a6, c6, rfl, q1, q2, q3, hlow _ hB0 (by omega), hlow _ hbw (by omega)⟩
          have HRW := mkH HW2.out.m
          clear hal hkq HW2 HW m0 m1 m2 m3 z0 z1 z2
          refine wp_region_held_drew (S := fun W => W.cell? ⟨w.heap.size, 2, none⟩ = some (.slice (some ⟨b, off, none⟩) mk.length mc) ∧ W.cell? ⟨b, off + j * 3, none⟩ = some (.string x0) ∧ W.cell? ⟨b, off + j * 3 + 1, none⟩ = some (.int .i64 x1) ∧ W.cell? ⟨b, off + j * 3 + 2, none⟩ = some (.int .i64 x2)) hmx ?_ (fun hHeld => ?_)
          · exact HKS.out _ rfl rfl
          refine wpAnyH_take (i := 0) (oi := { dst := some 58, op := _, type := _, pos := _, after := _, guard := _ }) (v := ?_) rfl (by kernel_rfl) (by kernel_rfl) (by kernel_rfl) (fun _ _ _ h => h) (Or.inl ⟨by rfl, ?_⟩) (by assumption) ?_
          rotate_left
          · (intro W hSw; (try dsimp only at hSw); go_simp; try (with_reducible rfl))
          try simp only [Act.put, List.setIfInBounds_toArray, List.set_cons_zero, List.set_cons_succ]
          refine wpAnyH_take (i := 2) (oi := { dst := some 60, op := _, type := _, pos := _, after := _, guard := _ }) (v := ?_) rfl (by kernel_rfl) (by kernel_rfl) (by kernel_rfl) (fun _ _ _ h => h) (Or.inl ⟨by rfl, ?_⟩) (by assumption) ?_
          rotate_left
          · (intro W hSw; (try dsimp only at hSw); go_simp; try (with_reducible rfl))
          try simp only [Act.put, List.setIfInBounds_toArray, List.set_cons_zero, List.set_cons_succ]
          refine wpAnyH_take (i := 3) (oi := { dst := some 61, op := _, type := _, pos := _, after := _, guard := _ }) (v := ?_) rfl (by kernel_rfl) (by kernel_rfl) (by kernel_rfl) (fun _ _ _ h => h) (Or.inl ⟨by rfl, ?_⟩) (by assumption) ?_
          rotate_left
          · (intro W hSw; (try dsimp only at hSw); go_simp; try (with_reducible rfl))
          try simp only [Act.put, List.setIfInBounds_toArray, List.set_cons_zero, List.set_cons_succ]
          refine wpAnyH_take (i := 4) (oi := { dst := some 62, op := _, type := _, pos := _, after := _, guard := _ }) (v := ?_) rfl (by kernel_rfl) (by kernel_rfl) (by kernel_rfl) (fun _ _ _ h => h) (Or.inl ⟨by rfl, ?_⟩) (by assumption) ?_
          rotate_left
          · (intro W hSw; (try dsimp only at hSw); go_simp; try (with_reducible rfl))
          try simp only [Act.put, List.setIfInBounds_toArray, List.set_cons_zero, List.set_cons_succ]
          refine wpAnyH_take (i := 5) (oi := { dst := some 63, op := _, type := _, pos := _, after := _, guard := _ }) (v := ?_) rfl (by kernel_rfl) (by kernel_rfl) (by kernel_rfl) (fun _ _ _ h => h) (Or.inl ⟨by rfl, ?_⟩) (by assumption) ?_
          rotate_left
          · (intro W hSw; (try dsimp only at hSw); go_simp; try (with_reducible rfl))
          try simp only [Act.put, List.setIfInBounds_toArray, List.set_cons_zero, List.set_cons_succ]
          refine wpAnyH_take (i := 6) (oi := { dst := some 64, op := _, type := _, pos := _, after := _, guard := _ }) (v := ?_) rfl (by kernel_rfl) (by kernel_rfl) (by kernel_rfl) (fun _ _ _ h => h) (Or.inl ⟨by rfl, ?_⟩) (by assumption) ?_
          rotate_left
          · (intro W hSw; (try dsimp only at hSw); go_simp; try (with_reducible rfl))
          try simp only [Act.put, List.setIfInBounds_toArray, List.set_cons_zero, List.set_cons_succ]
          refine wpAnyH_ready (rs := [1, 7]) (by kernel_rfl) (by simp) ?_
          refine (AllReadyH.cons (o := { dst := some 59, op := _, type := _, pos := _, after := _, guard := _ }) rfl (fun K hK => ?_) (AllReadyH.cons (o := { dst := some 65, op := _, type := _, pos := _, after := _, guard := _ }) rfl (fun K hK => ?_) AllReadyH.nil))
          · go_simp
            refine hK.out _ _ ?_ (fun hHeld => ?_)
            · exact HKS.out _ rfl rfl
            clear hK K
            try simp only [Act.put, List.setIfInBounds_toArray, List.set_cons_zero, List.set_cons_succ]
            refine wpAnyH_ready (rs := [7]) (by kernel_rfl) (by simp) ?_
            refine AllReadyH.cons (o := { dst := some 65, op := _, type := _, pos := _, after := _, guard := _ }) rfl (fun K hK => ?_) AllReadyH.nil
            go_simp
            refine hK.out _ _ ?_ (fun hHeld => ?_)
            · exact HKS.out _ (Below.heap_alloc wr _ _ hB0) (Below.heap_alloc wr _ _ hbw)
            clear hK K
            try simp only [Act.put, List.setIfInBounds_toArray, List.set_cons_zero, List.set_cons_succ]
            refine wpAnyH_ready (rs := [8]) (by kernel_rfl) (by simp) ?_
            refine AllReadyH.cons (o := { dst := some 66, op := _, type := _, pos := _, after := _, guard := _ }) rfl (fun K hK => ?_) AllReadyH.nil
            refine step_append_own_src (by rfl) (.tmp 59) (.tmp 65) 23 23 (by rfl) O 70 _ 3 32 Tryd.underlying23 infoM (by rfl) (by decide) (.slice ma2 kl.length mc2) kl.length (Fm kl) (by rfl) HRW.out (.slice (some ⟨wr.heap.size, 0, none⟩) 1 1) 1 (Fm [⟨x0, x1, x2⟩]) (by rfl) HS.out (by unfold maxLen; omega) (by omega) (by simp; omega) ?_
            intro v6 w6 ho6 hg6
            obtain ⟨a6, c6, rfl, hq1, hq2, hq3, hq4, hq5⟩ := HEND.out v6 w6 ho6 hg6
            have HQ1 := mkH hq1
            clear hq1 ho6 hg6
            refine hK.out _ _ ?_ (fun hHeld => ?_)
            · exact HKS.out _ hq4 hq5
            clear hK K
            try simp only [Act.put, List.setIfInBounds_toArray, List.set_cons_zero, List.set_cons_succ]
            refine wpAnyH_take (i := 9) (oi := { dst := some 67, op := _, type := _, pos := _, after := _, guard := _ }) (v := ?_) rfl (by kernel_rfl) (by kernel_rfl) (by kernel_rfl) (fun _ _ _ h => h) (Or.inl ⟨by rfl, ?_⟩) (by assumption) ?_
            rotate_left
            · (intro W hSw; (try dsimp only at hSw); go_simp; try (with_reducible rfl))
            try simp only [Act.put, List.setIfInBounds_toArray, List.set_cons_zero, List.set_cons_succ]
            refine wpAnyH_ready (rs := [10]) (by kernel_rfl) (by simp) ?_
            refine AllReadyH.cons (o := { dst := none, op := _, type := _, pos := _, after := _, guard := _ }) rfl (fun K hK => ?_) AllReadyH.nil
            go_simp
            refine hK.out _ _ ?_ (fun hHeld => ?_)
            · exact HKS.out _ ((heap_setCell_other _ _ _ _ nB0).trans hq4) ((heap_setCell_other _ _ _ _ nb).trans hq5)
            clear hK K
            try simp only [Act.put, List.setIfInBounds_toArray, List.set_cons_zero, List.set_cons_succ]
            refine wpAnyH_done (by kernel_rfl) ?_ _
            go_wp2
            go_roundw
            case rel => exact ⟨j + 1, kq, a6, c6, by omega, by go_num, by unfold Hid; rw [HMS.out, HKL.out]; exact HKQ.out, by omega, by have := HQ1.out; rw [hkql] at this; exact this⟩
            case measure => simp [intOf]; omega
          · go_simp
            refine hK.out _ _ ?_ (fun hHeld => ?_)
            · exact HKS.out _ (Below.heap_alloc wr _ _ hB0) (Below.heap_alloc wr _ _ hbw)
            clear hK K
            try simp only [Act.put, List.setIfInBounds_toArray, List.set_cons_zero, List.set_cons_succ]
            refine wpAnyH_ready (rs := [1]) (by kernel_rfl) (by simp) ?_
            refine AllReadyH.cons (o := { dst := some 59, op := _, type := _, pos := _, after := _, guard := _ }) rfl (fun K hK => ?_) AllReadyH.nil
            go_simp
            refine hK.out _ _ ?_ (fun hHeld => ?_)
            · exact HKS.out _ (Below.heap_alloc wr _ _ hB0) (Below.heap_alloc wr _ _ hbw)
            clear hK K
            try simp only [Act.put, List.setIfInBounds_toArray, List.set_cons_zero, List.set_cons_succ]
            refine wpAnyH_ready (rs := [8]) (by kernel_rfl) (by simp) ?_
            refine AllReadyH.cons (o := { dst := some 66, op := _, type := _, pos := _, after := _, guard := _ }) rfl (fun K hK => ?_) AllReadyH.nil
            refine step_append_own_src (by rfl) (.tmp 59) (.tmp 65) 23 23 (by rfl) O 70 _ 3 32 Tryd.underlying23 infoM (by rfl) (by decide) (.slice ma2 kl.length mc2) kl.length (Fm kl) (by rfl) HRW.out (.slice (some ⟨wr.heap.size, 0, none⟩) 1 1) 1 (Fm [⟨x0, x1, x2⟩]) (by rfl) HS.out (by unfold maxLen; omega) (by omega) (by simp; omega) ?_
            intro v6 w6 ho6 hg6
            obtain ⟨a6, c6, rfl, hq1, hq2, hq3, hq4, hq5⟩ := HEND.out v6 w6 ho6 hg6
            have HQ1 := mkH hq1
            clear hq1 ho6 hg6
            refine hK.out _ _ ?_ (fun hHeld => ?_)
            · exact HKS.out _ hq4 hq5
            clear hK K
            try simp only [Act.put, List.setIfInBounds_toArray, List.set_cons_zero, List.set_cons_succ]
            refine wpAnyH_take (i := 9) (oi := { dst := some 67, op := _, type := _, pos := _, after := _, guard := _ }) (v := ?_) rfl (by kernel_rfl) (by kernel_rfl) (by kernel_rfl) (fun _ _ _ h => h) (Or.inl ⟨by rfl, ?_⟩) (by assumption) ?_
            rotate_left
            · (intro W hSw; (try dsimp only at hSw); go_simp; try (with_reducible rfl))
            try simp only [Act.put, List.setIfInBounds_toArray, List.set_cons_zero, List.set_cons_succ]
            refine wpAnyH_ready (rs := [10]) (by kernel_rfl) (by simp) ?_
            refine AllReadyH.cons (o := { dst := none, op := _, type := _, pos := _, after := _, guard := _ }) rfl (fun K hK => ?_) AllReadyH.nil
            go_simp
            refine hK.out _ _ ?_ (fun hHeld => ?_)
            · exact HKS.out _ ((heap_setCell_other _ _ _ _ nB0).trans hq4) ((heap_setCell_other _ _ _ _ nb).trans hq5)
            clear hK K
            try simp only [Act.put, List.setIfInBounds_toArray, List.set_cons_zero, List.set_cons_succ]
            refine wpAnyH_done (by kernel_rfl) ?_ _
            go_wp2
            go_roundw
            case rel => exact ⟨j + 1, kq, a6, c6, by omega, by go_num, by unfold Hid; rw [HMS.out, HKL.out]; exact HKQ.out, by omega, by have := HQ1.out; rw [hkql] at this; exact this⟩
            case measure => simp [intOf]; omega
        · have t1 : decide (now - x2 < 300) = false := by simpa using hkp
          have HMS := mkH (fil_no (fun m : M => !decide (300 ≤ now - m.ti)) mk j ⟨x0, x1, x2⟩ HX.out (by simp; omega))
          go_wp2
          go_roundw
          case rel => exact ⟨j + 1, kl, ma2, mc2, by omega, by go_num, by unfold Hid; rw [HMS.out]; exact HKL.out, by omega, HW⟩
          case measure => simp [intOf]; omega
      · obtain rfl : j = mk.length := by omega
        obtain ⟨mfin, hmf⟩ : ∃ l, mk.filter (fun m => !decide (300 ≤ now - m.ti)) = l := ⟨_, rfl⟩
        have hkm : kl = mfin := by rw [← HKL.out, List.take_length]; exact hmf
        subst hkm
        have HMF := mkH hmf
        clear hmf
        obtain ⟨e0, e1, e2, e3, f0, f1, f2, f3⟩ := HW.out.o.four
        obtain ⟨y0, y1, y2, y3, v0, v1, v2, v3⟩ := HW.out.r.four
        have nOR : ¬ O = R := o2
        have nRO : ¬ R = O := fun e => o2 e.symm
        go_wp2
        obtain ⟨hR8, hF8⟩ := HW.out.r.sAll (v0 := .int .i64 nx) (v1 := .slice kaf kfin.length kcf) (v2 := .slice ma2 kl.length mc2) (v3 := .string at')
        generalize (((wr.setCell ⟨R, 0, none⟩ (.int .i64 nx)).setCell ⟨R, 1, none⟩ (.slice kaf kfin.length kcf)).setCell ⟨R, 2, none⟩ (.slice ma2 kl.length mc2)).setCell ⟨R, 3, none⟩ (.string at') = w8 at *
        have hfg : expire ⟨nx, kp, mk, at'⟩ now keep = ⟨nx, kfin, kl, at'⟩ := by unfold expire; rw [← HKF.out, ← HMF.out]
        rw [hfg]
        refine bodyPost_ret (res_c rfl _ _ _ rfl (loadG hR8)) rfl ⟨kaf, kcf, ma2, mc2, rfl, ⟨?_, ?_⟩, ?_⟩
        · exact own_mono (own_fr HW.out.k hF8 (fun k hk hk2 => own_ne HW.out.k HW.out.r hk (by decide) hk2)) o1
        · exact own_mono (own_fr HW.out.m hF8 (fun k hk hk2 => own_ne HW.out.m HW.out.r hk (by decide) hk2)) o1
        · exact below_fr HW.out.bl hF8 (by intro k hk; omega) (Nat.le_refl _)
end Go.Proofs.YtbemindfmghjdaaDoor.Gq
