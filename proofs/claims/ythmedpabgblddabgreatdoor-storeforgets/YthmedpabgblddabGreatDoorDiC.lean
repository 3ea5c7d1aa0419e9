/-
  The contracts of Append, Sync, Read, Cut, Swap, Restart, Kept, Copy.
-/
import Derived.Test.YthmedpabgblddabGreatDoorDiB
namespace Go.Proofs.YthmedpabgblddabGreatDoor.Dc
open Go.RowKit Kt Dk Dp Da Db
set_option linter.unusedVariables false
set_option maxRecDepth 20000

theorem ret_i {E x : Int} (h : E = x) : Ending.returned (Value.int .i64 x) = .returned (.int .i64 E) := by rw [h]
theorem ret_t {E x : Int} {v : Value} (h : E = x) : Ending.returned (Value.tuple #[v, .int .i64 x]) = .returned (.tuple #[v, .int .i64 E]) := by rw [h]
theorem nx_own {w w' : World} {F : Nat → Prop} {D : Nat} (hf : Fr (fun k => k = D) w w') (ho : F D) : Nx F w w' F := ⟨hf.mono (fun k hk => by subst hk; exact ho), fun _ h => .inl h⟩

set_option maxHeartbeats 1000000 in
theorem append_any {w : World} {F : Nat → Prop} {D : Nat} {s : St} (h : Ds w F D s) (ao : Option Addr) (cap : Nat) (bs : List UInt8) (hr : Row w ao bs) (hl : bs.length ≤ 9223372036854775807) :
    Calls Tryz.prog 82 #[.pointer (some ⟨D, 0, none⟩), .slice ao bs.length cap] w fun e w' => e = .returned (.int .i64 (appE s bs.length)) ∧ ∃ F', Ds w' F' D (appS s bs) ∧ Nx F w w' F' := by
  have h0 := h
  obtain ⟨v, h⟩ := h
  obtain ⟨va, vc, hv, -⟩ := h.row.form
  have hlen := h.len
  have c0 := h.c0
  have c1 := h.c1
  have c2 := h.c2
  rw [List.length_append] at hlen
  have hsz : (s.kept ++ s.rest).length = s.kept.length + s.rest.length := List.length_append
  subst hv
  rw [hsz] at c2
  obtain ⟨n, hn⟩ : ∃ n, s.kept.length + s.rest.length = n := ⟨_, rfl⟩
  rw [hn] at c2 hlen
  obtain ⟨k, hk⟩ : ∃ k, 4194304 - n = k := ⟨_, rfl⟩
  have ek : (4194304 : Int) - (n : Int) = (k : Int) := by omega
  have H0 := mkH h0
  have H := mkH h
  clear h h0
  have HE := mkH (show appE s bs.length = if s.down then 10 else if 4194304 < s.kept.length + s.rest.length + bs.length then 7 else 0 from rfl)
  have HS := mkH (show appS s bs = if s.down then s else if 4194304 < s.kept.length + s.rest.length + bs.length then s else ⟨s.kept, s.rest ++ bs, false⟩ from rfl)
  rw [hn] at HE HS
  generalize appE s bs.length = E at HE ⊢
  generalize appS s bs = S' at HS ⊢
  go_enter Tryz.func82, Tryz.ntmps82
  go_wp2_with fail
  refine (trouble_any w D s.down c0 c1).mono ?_
  rintro e w1 ⟨rfl, hw⟩
  have hw2 := hw.symm
  subst hw2
  clear hw
  cases hd : s.down
  · rw [hd] at HE HS
    simp only [Bool.false_eq_true, if_false] at HE HS ⊢
    by_cases hful : 4194304 < n + bs.length
    · have t1 : decide ((k : Int) < (bs.length : Int)) = true := by simp; omega
      have t2 : (k : Int) < (bs.length : Int) := by omega
      rw [if_pos hful] at HE HS
      clear hful
      go_wp2
      go_ret
      exact ⟨ret_i HE.out, F, by rw [HS.out]; exact H0.out, Nx.refl _ _⟩
    · have t1 : decide ((k : Int) < (bs.length : Int)) = false := by simp; omega
      have t2 : ¬ (k : Int) < (bs.length : Int) := by omega
      rw [if_neg hful] at HE HS
      have HL : Hid ((s.kept ++ s.rest).length + bs.length ≤ 4194304) := by unfold Hid; rw [hsz]; omega
      have HR := mkH hr
      have HO : Hid (Ow w F D 5 (.slice va n vc) (s.kept ++ s.rest)) := by have := H.out.row; rw [hsz, hn] at this; exact this
      clear hful hr hn hk hsz
      go_wp2_with (at_builtin; refine (wpList_append_ow rfl (.tmp 24) (.tmp 25) 30 30 rfl F D 5 (.int .u8 0) Tryz.underlying30 info5 rfl _ (s.kept ++ s.rest) rfl HO.out _ bs rfl (Row.src (P := Tryz.prog) Tryz.underlying30 HR.out cap) HL.out H.out.dlt ?_))
      intro v' w' hfr hown
      obtain ⟨L, hL⟩ : ∃ L, s.kept ++ (s.rest ++ bs) = L := ⟨_, rfl⟩
      rw [hL] at hown
      have HLL := mkH hL
      clear hL
      obtain ⟨a', c', hv', -⟩ := hown.form
      subst hv'
      have hheap : w'.heap[D]? = some (.cells #[.bool true, .bool s.down, .slice va (s.kept ++ s.rest).length vc, .int .i64 (s.kept.length : Int)] 77 (0, 0)) := by
        rw [hfr.heap H.out.dlt (fun x => x.2 rfl)]; exact H.out.heap
      have d2 : w'.cell? ⟨D, 2, none⟩ = some (.slice va (s.kept ++ s.rest).length vc) := by rw [cell_of_row _ _ _ _ _ _ hheap]; rfl
      have f2 : w'.frozen? ⟨D, 2, none⟩ = false := frozen_of_row w' D 2 _ _ hheap
      have HH := mkH hheap
      have HF := mkH hfr
      have HO := mkH hown
      have HD := mkH hd
      clear hheap hfr hown hd
      go_wp2
      go_ret
      refine ⟨ret_i HE.out, (fun k => F k ∨ (w.heap.size ≤ k ∧ k < w'.heap.size)), ⟨.slice a' L.length c', ?_⟩, ?_, fun k hk => ?_⟩
      · have := raw_mk (fun k hk => ?_) (.inl H.out.own) HH.out HO.out (by have := HL.out; rw [← HLL.out]; simp only [List.length_append] at this ⊢; omega)
        · rw [HS.out]
          rw [HD.out] at this
          show Raw _ _ _ false (s.kept ++ (s.rest ++ bs)) _ _
          rw [HLL.out]
          exact this
        · rcases hk with x | x
          · exact Nat.lt_of_lt_of_le (H.out.lt k x) HF.out.size
          · exact x.2
      · refine Fr.trans (HF.out.mono (fun k x => x.1)) (fr_cell HH.out 2 _) (fun i hi => ?_)
        subst hi
        exact .inl H.out.own
      · rcases hk with x | x
        · exact .inl x
        · exact .inr x.1
  · rw [hd] at HE HS c1
    simp only [if_true] at HE HS ⊢
    go_wp2
    go_ret
    exact ⟨ret_i HE.out, F, by rw [HS.out]; exact H0.out, Nx.refl _ _⟩

set_option maxHeartbeats 400000 in
theorem sync_any {w : World} {F : Nat → Prop} {D : Nat} {s : St} (h : Ds w F D s) :
    Calls Tryz.prog 43 #[.pointer (some ⟨D, 0, none⟩)] w fun e w' => e = .returned (.int .i64 (synE s)) ∧ Ds w' F D (synS s) ∧ Nx F w w' F := by
  have h0 := h
  obtain ⟨v, h⟩ := h
  have c0 := h.c0
  have c1 := h.c1
  have H0 := mkH h0
  have H := mkH h
  clear h h0
  have HE := mkH (show synE s = if s.down then 10 else 0 from rfl)
  have HS := mkH (show synS s = if s.down then s else ⟨s.kept ++ s.rest, [], false⟩ from rfl)
  generalize synE s = E at HE ⊢
  generalize synS s = S' at HS ⊢
  go_enter Tryz.func43, Tryz.ntmps43
  go_wp2_with fail
  refine (trouble_any w D s.down c0 c1).mono ?_
  rintro e w1 ⟨rfl, hw⟩
  have hw2 := hw.symm
  subst hw2
  clear hw
  cases hd : s.down
  · rw [hd] at HE HS
    simp only [Bool.false_eq_true, if_false] at HE HS ⊢
    go_wp2_with fail
    refine (keepAll_any H.out).mono ?_
    rintro e w1 ⟨⟨u, rfl⟩, hraw, hfr⟩
    have HW := mkH hraw
    have HF := mkH hfr
    have HD := mkH hd
    clear hraw hfr hd c0 c1
    go_wp2
    go_ret
    refine ⟨ret_i HE.out, ⟨v, ?_⟩, nx_own HF.out H.out.own⟩
    have := HW.out
    rw [HD.out] at this
    rw [HS.out]
    simpa using this
  · rw [hd] at HE HS c1
    simp only [if_true] at HE HS ⊢
    go_wp2
    go_ret
    exact ⟨ret_i HE.out, by rw [HS.out]; exact H0.out, Nx.refl _ _⟩

/-- Bytes that a call hands back, in a new block. -/
def New (w w' : World) (v : Value) (bs : List UInt8) : Prop := ∃ ao cap, v = .slice ao bs.length cap ∧ bs.length ≤ cap ∧ cap ≤ 9223372036854775807 ∧ Row w' ao bs ∧ ∀ b off, ao = some ⟨b, off, none⟩ → w.heap.size ≤ b
theorem new_fresh (w : World) (bs : List UInt8) (hn : bs.length ≤ 4194304) : New w (w.alloc (.cells (U bs).toArray 5)) (.slice (some ⟨w.heap.size, 0, none⟩) bs.length bs.length) bs :=
  ⟨_, _, rfl, Nat.le_refl _, by omega, (Row.own (fresh_own w bs hn)).2.2, fun b off e => by injection e with e; injection e with e1; omega⟩

set_option maxHeartbeats 400000 in
theorem read_any {w : World} {F : Nat → Prop} {D : Nat} {s : St} (h : Ds w F D s) :
    Calls Tryz.prog 53 #[.pointer (some ⟨D, 0, none⟩)] w fun e w' => ∃ v, e = .returned (.tuple #[v, .int .i64 (redE s)]) ∧ New w w' v (redB s) ∧ Below w.heap.size w w' := by
  obtain ⟨v, h⟩ := h
  obtain ⟨va, vc, hv, -, -, hrow, -⟩ := h.row.form
  have hlen := h.len
  have c0 := h.c0
  have c1 := h.c1
  have c2 := h.c2
  subst hv
  have HE := mkH (show redE s = if s.down then 10 else 0 from rfl)
  have HS := mkH (show redB s = if s.down then [] else s.kept ++ s.rest from rfl)
  generalize redE s = E at HE ⊢
  generalize redB s = S' at HS ⊢
  generalize s.kept ++ s.rest = bs at *
  have HR := mkH hrow
  clear h hrow
  go_enter Tryz.func53, Tryz.ntmps53
  go_wp2_with fail
  refine (trouble_any w D s.down c0 c1).mono ?_
  rintro e w1 ⟨rfl, hw⟩
  have hw2 := hw.symm
  subst hw2
  clear hw
  cases hd : s.down
  · rw [hd] at HE HS
    simp only [Bool.false_eq_true, if_false] at HE HS ⊢
    go_wp2_with fail
    refine (fresh_any w va vc bs HR.out hlen).mono ?_
    rintro e w1 ⟨rfl, rfl⟩
    go_wp2
    go_ret2
    exact ⟨_, ret_t HE.out, by rw [HS.out]; exact new_fresh w bs hlen, (Below.refl _ w).alloc (Nat.le_refl _) _⟩
  · rw [hd] at HE HS c1
    simp only [if_true] at HE HS ⊢
    go_wp2
    go_ret2
    exact ⟨_, ret_t HE.out, by rw [HS.out]; exact ⟨none, 0, rfl, Nat.le_refl _, by omega, Row.nil _ _, fun b off e => by cases e⟩, Below.refl _ _⟩

set_option maxHeartbeats 1000000 in
theorem cut_any {w : World} {F : Nat → Prop} {D : Nat} {s : St} (h : Ds w F D s) (n : Int) :
    Calls Tryz.prog 73 #[.pointer (some ⟨D, 0, none⟩), .int .i64 n] w fun e w' => e = .returned (.int .i64 (cutE s n)) ∧ Ds w' F D (cutS s n) ∧ Nx F w w' F := by
  have h0 := h
  obtain ⟨v, h⟩ := h
  obtain ⟨va, vc, hv, -⟩ := h.row.form
  have hlen := h.len
  have c0 := h.c0
  have c1 := h.c1
  have c2 := h.c2
  have hsz : (s.kept ++ s.rest).length = s.kept.length + s.rest.length := List.length_append
  have HE := mkH (show cutE s n = if s.down then 10 else if n < 0 ∨ ((s.kept.length + s.rest.length : Nat) : Int) < n then 2 else 0 from rfl)
  have HS := mkH (show cutS s n = if s.down then s else if n < 0 ∨ ((s.kept.length + s.rest.length : Nat) : Int) < n then s else ⟨(s.kept ++ s.rest).take n.toNat, [], false⟩ from rfl)
  rw [← hsz] at HE HS
  have H0 := mkH h0
  have H := mkH h
  clear h h0 hsz
  subst hv
  generalize cutE s n = E at HE ⊢
  generalize cutS s n = S' at HS ⊢
  obtain ⟨N, hN⟩ : ∃ N, (s.kept ++ s.rest).length = N := ⟨_, rfl⟩
  rw [hN] at c2 hlen HE HS
  have HN := mkH hN
  clear hN
  go_enter Tryz.func73, Tryz.ntmps73
  go_wp2_with fail
  refine (trouble_any w D s.down c0 c1).mono ?_
  rintro e w1 ⟨rfl, hw⟩
  have hw2 := hw.symm
  subst hw2
  clear hw
  cases hd : s.down
  · rw [hd] at HE HS
    simp only [Bool.false_eq_true, if_false] at HE HS ⊢
    by_cases hbad : n < 0
    · rw [if_pos (.inl hbad)] at HE HS
      go_wp2
      go_ret
      exact ⟨ret_i HE.out, by rw [HS.out]; exact H0.out, Nx.refl _ _⟩
    · by_cases hbad2 : (N : Int) < n
      · rw [if_pos (.inr hbad2)] at HE HS
        go_wp2
        go_ret
        exact ⟨ret_i HE.out, by rw [HS.out]; exact H0.out, Nx.refl _ _⟩
      · rw [if_neg (by omega)] at HE HS
        obtain ⟨m, rfl⟩ : ∃ m : Nat, n = (m : Int) := ⟨n.toNat, by omega⟩
        have HM : Hid (m ≤ (s.kept ++ s.rest).length) := by unfold Hid; rw [HN.out]; omega
        go_wp2_with fail
        refine (leave_any H.out m HM.out).mono ?_
        rintro e w1 ⟨⟨u, rfl⟩, ⟨v', hraw⟩, hfr⟩
        have HW := mkH hraw
        have HF := mkH hfr
        clear hraw hfr c0 c1 c2
        go_wp2_with fail
        refine (keepAll_any HW.out).mono ?_
        rintro e w2 ⟨⟨u, rfl⟩, hraw, hfr⟩
        have HW2 := mkH hraw
        have HF2 := mkH (nx_own hfr H.out.own)
        have HD := mkH hd
        clear hraw hfr hd
        go_wp2
        go_ret
        refine ⟨ret_i HE.out, ⟨v', ?_⟩, (nx_own HF.out H.out.own).trans HF2.out⟩
        have := HW2.out
        rw [HD.out] at this
        rw [HS.out]
        simpa using this
  · rw [hd] at HE HS c1
    simp only [if_true] at HE HS ⊢
    go_wp2
    go_ret
    exact ⟨ret_i HE.out, by rw [HS.out]; exact H0.out, Nx.refl _ _⟩

set_option maxHeartbeats 1000000 in
theorem swap_any {w : World} {F : Nat → Prop} {D : Nat} {s : St} (h : Ds w F D s) (ao : Option Addr) (cap : Nat) (bs : List UInt8) (hr : Row w ao bs) (hl : bs.length ≤ 9223372036854775807) :
    Calls Tryz.prog 38 #[.pointer (some ⟨D, 0, none⟩), .slice ao bs.length cap] w fun e w' => e = .returned (.int .i64 (swpE s bs.length)) ∧ ∃ F', Ds w' F' D (swpS s bs) ∧ Nx F w w' F' := by
  have h0 := h
  obtain ⟨v, h⟩ := h
  have c0 := h.c0
  have c1 := h.c1
  have H0 := mkH h0
  have H := mkH h
  clear h h0
  have HE := mkH (show swpE s bs.length = if s.down then 10 else if 4194304 < bs.length then 7 else 0 from rfl)
  have HS := mkH (show swpS s bs = if s.down then s else if 4194304 < bs.length then s else ⟨bs, [], false⟩ from rfl)
  generalize swpE s bs.length = E at HE ⊢
  generalize swpS s bs = S' at HS ⊢
  go_enter Tryz.func38, Tryz.ntmps38
  go_wp2_with fail
  refine (trouble_any w D s.down c0 c1).mono ?_
  rintro e w1 ⟨rfl, hw⟩
  have hw2 := hw.symm
  subst hw2
  clear hw
  cases hd : s.down
  · rw [hd] at HE HS
    simp only [Bool.false_eq_true, if_false] at HE HS ⊢
    by_cases hful : 4194304 < bs.length
    · have t2 : (4194304 : Int) < (bs.length : Int) := by omega
      rw [if_pos hful] at HE HS
      clear hful
      go_wp2
      go_ret
      exact ⟨ret_i HE.out, F, by rw [HS.out]; exact H0.out, Nx.refl _ _⟩
    · have t2 : ¬ (4194304 : Int) < (bs.length : Int) := by omega
      rw [if_neg hful] at HE HS
      have HL : Hid (bs.length ≤ 4194304) := by unfold Hid; omega
      have HR := mkH hr
      clear hful hr
      go_wp2_with fail
      refine (fresh_any w ao cap bs HR.out HL.out).mono ?_
      rintro e w1 ⟨rfl, hw1⟩
      have hb1 : Below w.heap.size w w1 := by rw [hw1]; exact (Below.refl _ w).alloc (Nat.le_refl _) _
      have hraw := H.out.below hb1
      have hown : Ow w1 (fun k => F k ∨ (w.heap.size ≤ k ∧ k < w1.heap.size)) D 5 (.slice (some ⟨w.heap.size, 0, none⟩) bs.length bs.length) bs := by
        have ho := fresh_own w bs HL.out
        rw [← hw1] at ho
        exact Ow.ofOwn ho (fun g h1 h2 => ⟨.inr ⟨h1, h2⟩, by have := H.out.dlt; omega⟩)
      have d2 := hraw.c2
      have f2 := hraw.fz 2
      have HH := mkH hraw.heap
      have HO := mkH hown
      have HB := mkH hb1
      have hlt := hraw.lt
      have hr2 := raw_mk (F := fun k => F k ∨ (w.heap.size ≤ k ∧ k < w1.heap.size)) (fun k hk => by rcases hk with x | x; exact hlt k x; exact x.2) (.inl H.out.own) HH.out HO.out HL.out
      have hf2 := fr_cell HH.out 2 (.slice (some ⟨w.heap.size, 0, none⟩) bs.length bs.length)
      have HR2 := mkH hr2
      have HF2 := mkH hf2
      clear hraw hown hb1 hw1 hlt hr2 hf2
      go_wp2_with fail
      refine (keepAll_any HR2.out).mono ?_
      rintro e w2 ⟨⟨u, rfl⟩, hraw, hfr⟩
      have HW2 := mkH hraw
      have HF3 := mkH hfr
      have HD := mkH hd
      clear hraw hfr hd d2 f2
      go_wp2
      go_ret
      refine ⟨ret_i HE.out, (fun k => F k ∨ (w.heap.size ≤ k ∧ k < w1.heap.size)), ⟨.slice (some ⟨w.heap.size, 0, none⟩) bs.length bs.length, ?_⟩, ?_, fun k hk => ?_⟩
      · have := HW2.out
        rw [HD.out] at this
        rw [HS.out]
        simpa using this
      · have h1 : Fr F w w1 := Fr.ofBelow HB.out
        have h2 := h1.trans HF2.out (fun i hi => by subst hi; exact .inl H.out.own)
        exact h2.trans HF3.out (fun i hi => by subst hi; exact .inl H.out.own)
      · rcases hk with x | x
        · exact .inl x
        · exact .inr x.1
  · rw [hd] at HE HS c1
    simp only [if_true] at HE HS ⊢
    go_wp2
    go_ret
    exact ⟨ret_i HE.out, F, by rw [HS.out]; exact H0.out, Nx.refl _ _⟩

set_option maxHeartbeats 400000 in
theorem restart_any {w : World} {F : Nat → Prop} {D : Nat} {s : St} (h : Ds w F D s) :
    Calls Tryz.prog 30 #[.pointer (some ⟨D, 0, none⟩)] w fun e w' => e = .returned (.int .i64 (rstE s)) ∧ Ds w' F D (rstS s) ∧ Nx F w w' F := by
  have h0 := h
  obtain ⟨v, h⟩ := h
  have c0 := h.c0
  have c1 := h.c1
  have f1 := h.fz 1
  have H0 := mkH h0
  have H := mkH h
  clear h h0
  have HE := mkH (show rstE s = if s.down then 0 else 9 from rfl)
  have HS := mkH (show rstS s = if s.down then ⟨s.kept ++ s.rest, [], false⟩ else s from rfl)
  generalize rstE s = E at HE ⊢
  generalize rstS s = S' at HS ⊢
  go_enter Tryz.func30, Tryz.ntmps30
  go_wp2_with fail
  refine (isMade_any w D c0).mono ?_
  rintro e w1 ⟨rfl, hw⟩
  have hw2 := hw.symm
  subst hw2
  clear hw
  cases hd : s.down
  · rw [hd] at HE HS c1
    simp only [Bool.false_eq_true, if_false] at HE HS
    go_wp2
    go_ret
    exact ⟨ret_i HE.out, by rw [HS.out]; exact H0.out, Nx.refl _ _⟩
  · rw [hd] at HE HS c1
    simp only [if_true] at HE HS
    have HR := mkH (H.out.setDown false)
    have HF := mkH (fr_set H.out 1 (.bool false))
    clear hd
    go_wp2_with fail
    refine (keepAll_any HR.out).mono ?_
    rintro e w1 ⟨⟨u, rfl⟩, hraw, hfr⟩
    have HW := mkH hraw
    have HF2 := mkH hfr
    clear hraw hfr c0 c1 f1
    go_wp2
    go_ret
    refine ⟨ret_i HE.out, ⟨v, ?_⟩, (nx_own HF.out H.out.own).trans (nx_own HF2.out H.out.own)⟩
    have := HW.out
    rw [HS.out]
    simpa using this
end Go.Proofs.YthmedpabgblddabGreatDoor.Dc
