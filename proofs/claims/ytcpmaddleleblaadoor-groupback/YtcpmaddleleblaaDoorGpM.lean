/-
  num, small, Fresh; few.
-/
import Derived.Test.YtcpmaddleleblaaDoorGpA
namespace Go.Proofs.YtcpmaddleleblaaDoor.Gm
open Go.RowKit Kt Gf Gp Gr Gk Ga
set_option linter.unusedVariables false
set_option linter.unusedSimpArgs false
set_option maxRecDepth 20000

def nm (n : Int) : Int := if n < 0 ∨ 1099511627776 < n then (n.tmod 1000 + 1000).tmod 1000 else n
theorem nm_bd (n : Int) : 0 ≤ nm n ∧ nm n ≤ 1099511627776 := by
  unfold nm
  split
  · have h1 := Int.lt_tmod_of_pos n (show (0 : Int) < 1000 by decide)
    have h2 : 0 ≤ n.tmod 1000 + 1000 := by omega
    have h3 := Int.tmod_nonneg 1000 h2
    have h4 := Int.tmod_lt_of_pos (n.tmod 1000 + 1000) (show (0 : Int) < 1000 by decide)
    omega
  · omega
theorem nm_sm (n : Int) : Sm (nm n) := by have := nm_bd n; unfold Sm; omega
theorem nm_nm (n : Int) : nm (nm n) = nm n := by
  have := nm_bd n
  generalize nm n = m at *
  unfold nm
  rw [if_neg (by omega)]
def smal (n m : Int) : Int := (n.tmod m + m).tmod m
theorem smal_bd (n m : Int) (hm : 0 < m) : 0 ≤ smal n m ∧ smal n m < m := by
  unfold smal
  have h1 := Int.lt_tmod_of_pos n hm
  have h2 : 0 ≤ n.tmod m + m := by omega
  exact ⟨Int.tmod_nonneg m h2, Int.tmod_lt_of_pos _ hm⟩

set_option maxHeartbeats 1000000 in
theorem num_any (w : World) (n : Int) : Calls Tryd.prog 30 #[.int .i64 n] w fun e w' => e = .returned (.int .i64 (nm n)) ∧ w' = w := by
  have h1 := Int.lt_tmod_of_pos n (show (0 : Int) < 1000 by decide)
  have h2 := Int.tmod_lt_of_pos n (show (0 : Int) < 1000 by decide)
  have b1 : -9223372036854775808 ≤ n.tmod 1000 := by omega
  have b2 : n.tmod 1000 ≤ 9223372036854775807 := by omega
  have b3 : -9223372036854775808 ≤ n.tmod 1000 + 1000 := by omega
  have b4 : n.tmod 1000 + 1000 ≤ 9223372036854775807 := by omega
  have h3 := Int.tmod_nonneg 1000 (show 0 ≤ n.tmod 1000 + 1000 by omega)
  have h4 := Int.tmod_lt_of_pos (n.tmod 1000 + 1000) (show (0 : Int) < 1000 by decide)
  have b5 : -9223372036854775808 ≤ (n.tmod 1000 + 1000).tmod 1000 := by omega
  have b6 : (n.tmod 1000 + 1000).tmod 1000 ≤ 9223372036854775807 := by omega
  by_cases hn : n < 0
  · have q : nm n = (n.tmod 1000 + 1000).tmod 1000 := by unfold nm; rw [if_pos (.inl hn)]
    have t1 : decide (n < 0) = true := by simpa using hn
    have HQ := mkH q
    generalize nm n = m at HQ ⊢
    clear q h1 h2 h3 h4
    go_enter Tryd.func30, Tryd.ntmps30
    go_wp2
    go_ret
    exact ⟨by rw [HQ.out]; rfl, rfl⟩
  · have t1 : decide (n < 0) = false := by simpa using hn
    by_cases hb : 1099511627776 < n
    · have q : nm n = n % 1000 := by
        unfold nm
        rw [if_pos (.inr hb), Int.tmod_eq_emod_of_nonneg (show 0 ≤ n by omega), Int.tmod_eq_emod_of_nonneg (by omega)]
        omega
      have t2 : decide (1099511627776 < n) = true := by simpa using hb
      have HQ := mkH q
      generalize nm n = m at HQ ⊢
      clear q h1 h2 h3 h4
      go_enter Tryd.func30, Tryd.ntmps30
      go_wp2
      go_ret
      exact ⟨by rw [HQ.out]; rfl, rfl⟩
    · have q : nm n = n := by unfold nm; rw [if_neg (by omega)]
      have t2 : decide (1099511627776 < n) = false := by simpa using hb
      have HQ := mkH q
      generalize nm n = m at HQ ⊢
      clear q h1 h2 h3 h4
      go_enter Tryd.func30, Tryd.ntmps30
      go_wp2
      go_ret
      exact ⟨by rw [HQ.out]; rfl, rfl⟩

theorem small_any (w : World) (n m : Int) (hm : 0 < m) (hm2 : m ≤ 1000000) : Calls Tryd.prog 23 #[.int .i64 n, .int .i64 m] w fun e w' => e = .returned (.int .i64 (smal n m)) ∧ w' = w := by
  have h1 := Int.lt_tmod_of_pos n hm
  have h2 := Int.tmod_lt_of_pos n hm
  have b1 : -9223372036854775808 ≤ n.tmod m := by omega
  have b2 : n.tmod m ≤ 9223372036854775807 := by omega
  have b3 : -9223372036854775808 ≤ n.tmod m + m := by omega
  have b4 : n.tmod m + m ≤ 9223372036854775807 := by omega
  have h3 := Int.tmod_nonneg m (show 0 ≤ n.tmod m + m by omega)
  have h4 := Int.tmod_lt_of_pos (n.tmod m + m) hm
  have b5 : -9223372036854775808 ≤ (n.tmod m + m).tmod m := by omega
  have b6 : (n.tmod m + m).tmod m ≤ 9223372036854775807 := by omega
  have hm0 : ¬ m = 0 := by omega
  have hm1 : (m == 0) = false := by simpa using hm0
  have q : smal n m = (n.tmod m + m).tmod m := rfl
  have HQ := mkH q
  generalize smal n m = s at HQ ⊢
  clear q h1 h2 h3 h4
  go_enter Tryd.func23, Tryd.ntmps23
  go_wp2
  go_ret
  exact ⟨by rw [HQ.out]; rfl, rfl⟩

theorem Fresh_any (w : World) : Calls Tryd.prog 37 #[] w fun e w' => e = .returned (.agg (gC ⟨1, [], [], ⟨#[]⟩⟩ none 0 none 0)) ∧ Below w.heap.size w w' := by
  go_enter Tryd.func37, Tryd.ntmps37
  go_wp2
  have hB := Bx.new w #[.int .i64 1, .slice none 0 0, .slice none 0 0, .string ⟨#[]⟩] 25
  refine bodyPost_ret (res_c rfl _ _ _ rfl (loadG hB)) rfl ⟨rfl, (Below.refl _ w).alloc (Nat.le_refl _) _⟩

/-- What is asked. -/
structure Q where
  now : Int
  n : Int
  secs : Int
  most : Int
  room : Int
  body : ByteArray
  token : ByteArray
def qC (a : Q) : Array Value := #[.int .i64 a.now, .int .i64 a.n, .int .i64 a.secs, .int .i64 a.most, .int .i64 a.room, .string a.body, .string a.token]
def cutS (s : ByteArray) (k : Nat) : ByteArray := s.extract 0 (min s.size k)
theorem cutS_size (s : ByteArray) (k : Nat) : (cutS s k).size ≤ k := by unfold cutS; rw [ByteArray.size_extract]; omega
theorem cutS_same (s : ByteArray) (k : Nat) (h : s.size ≤ k) : cutS s k = s := by
  unfold cutS
  rw [Nat.min_eq_left h]
  exact ByteArray.extract_zero_size
def fewQ (a : Q) : Q := ⟨nm a.now, nm a.n, nm a.secs, nm a.most, nm a.room, cutS a.body 200, cutS a.token 40⟩
theorem min_str (s : ByteArray) (k : Nat) : (if ((k : Nat) : Int) < (s.size : Int) then ((k : Nat) : Int) else (s.size : Int)) = ((min s.size k : Nat) : Int) := by
  by_cases h : k < s.size
  · rw [if_pos (by omega)]; congr 1; omega
  · rw [if_neg (by omega)]; congr 1; omega

set_option maxHeartbeats 4000000 in
theorem few_any (w : World) (a : Q) : Calls Tryd.prog 9 #[.agg (qC a)] w fun e w' => e = .returned (.agg (qC (fewQ a))) ∧ Below w.heap.size w w' := by
  obtain ⟨b0, b1, b2, b3, b4, b5, b6⟩ := a
  simp only [qC, fewQ]
  have hm5 : (if (200 : Int) < (b5.size : Int) then (200 : Int) else (b5.size : Int)) = ((min b5.size 200 : Nat) : Int) := min_str b5 200
  have hm6 : (if (40 : Int) < (b6.size : Int) then (40 : Int) else (b6.size : Int)) = ((min b6.size 40 : Nat) : Int) := min_str b6 40
  obtain ⟨m5, h5⟩ : ∃ m, min b5.size 200 = m := ⟨_, rfl⟩
  obtain ⟨m6, h6⟩ : ∃ m, min b6.size 40 = m := ⟨_, rfl⟩
  have c5 : cutS b5 200 = b5.extract 0 m5 := by unfold cutS; rw [h5]
  have c6 : cutS b6 40 = b6.extract 0 m6 := by unfold cutS; rw [h6]
  rw [h5] at hm5
  rw [h6] at hm6
  have l5 : (m5 : Int) ≤ (b5.size : Int) := by omega
  have l6 : (m6 : Int) ≤ (b6.size : Int) := by omega
  rw [c5, c6]
  clear c5 c6 h5 h6
  have hmx : Tryd.prog.follows .mixedOrders = true := by kernel_rfl
  go_enter Tryd.func9, Tryd.ntmps9
  go_wp2_with fail
  have hZ := Bx.new1 w (.cells #[Value.int .i64 b0, .int .i64 b1, .int .i64 b2, .int .i64 b3, .int .i64 b4, .string b5, .string b6] 27) #[Value.int .i64 0, .int .i64 0, .int .i64 0, .int .i64 0, .int .i64 0, .string ⟨#[]⟩, .string ⟨#[]⟩] 27
  have hB := (Bx.new w #[Value.int .i64 b0, .int .i64 b1, .int .i64 b2, .int .i64 b3, .int .i64 b4, .string b5, .string b6] 27).alloc (.cells #[Value.int .i64 0, .int .i64 0, .int .i64 0, .int .i64 0, .int .i64 0, .string ⟨#[]⟩, .string ⟨#[]⟩] 27)
  have hbl : Below w.heap.size w ((w.alloc (.cells #[Value.int .i64 b0, .int .i64 b1, .int .i64 b2, .int .i64 b3, .int .i64 b4, .string b5, .string b6] 27)).alloc (.cells #[Value.int .i64 0, .int .i64 0, .int .i64 0, .int .i64 0, .int .i64 0, .string ⟨#[]⟩, .string ⟨#[]⟩] 27)) := ((Below.refl _ w).alloc (Nat.le_refl _) _).alloc (by simp) _
  have hne : ¬ w.heap.size = w.heap.size + 1 := by omega
  generalize (w.alloc (.cells #[Value.int .i64 b0, .int .i64 b1, .int .i64 b2, .int .i64 b3, .int .i64 b4, .string b5, .string b6] 27)).alloc (.cells #[Value.int .i64 0, .int .i64 0, .int .i64 0, .int .i64 0, .int .i64 0, .string ⟨#[]⟩, .string ⟨#[]⟩] 27) = w0 at *
  obtain ⟨R, hR⟩ : ∃ R, w.heap.size + 1 = R := ⟨_, rfl⟩
  rw [hR] at hZ hne ⊢
  have hlt : w.heap.size ≤ R := by omega
  clear hR
  have HZ := mkH hZ
  have HBL := mkH hbl
  have HKS : Hid (∀ W : World, W.heap[w.heap.size]? = w0.heap[w.heap.size]? → W.cell? ⟨w.heap.size, 0, none⟩ = some (.int .i64 b0) ∧ W.cell? ⟨w.heap.size, 1, none⟩ = some (.int .i64 b1) ∧ W.cell? ⟨w.heap.size, 2, none⟩ = some (.int .i64 b2) ∧ W.cell? ⟨w.heap.size, 3, none⟩ = some (.int .i64 b3) ∧ W.cell? ⟨w.heap.size, 4, none⟩ = some (.int .i64 b4) ∧ W.cell? ⟨w.heap.size, 5, none⟩ = some (.string b5) ∧ W.cell? ⟨w.heap.size, 6, none⟩ = some (.string b6)) := fun W hW => by
    have hB' : Bx W w.heap.size #[Value.int .i64 b0, .int .i64 b1, .int .i64 b2, .int .i64 b3, .int .i64 b4, .string b5, .string b6] 27 := by unfold Bx; rw [hW]; exact hB
    exact ⟨hB'.cell 0 _ rfl, hB'.cell 1 _ rfl, hB'.cell 2 _ rfl, hB'.cell 3 _ rfl, hB'.cell 4 _ rfl, hB'.cell 5 _ rfl, hB'.cell 6 _ rfl⟩
  have hia : (Tryd.prog.info? 27).map (·.size) = some 7 := by kernel_rfl
  clear hZ hbl hB
  refine wp_region_held_drew (S := fun W => W.cell? ⟨w.heap.size, 0, none⟩ = some (.int .i64 b0) ∧ W.cell? ⟨w.heap.size, 1, none⟩ = some (.int .i64 b1) ∧ W.cell? ⟨w.heap.size, 2, none⟩ = some (.int .i64 b2) ∧ W.cell? ⟨w.heap.size, 3, none⟩ = some (.int .i64 b3) ∧ W.cell? ⟨w.heap.size, 4, none⟩ = some (.int .i64 b4) ∧ W.cell? ⟨w.heap.size, 5, none⟩ = some (.string b5) ∧ W.cell? ⟨w.heap.size, 6, none⟩ = some (.string b6)) hmx ?_ (fun hHeld => ?_)
  · exact HKS.out _ rfl
  refine wpAnyH_take (i := 0) (oi := { dst := some 3, op := _, type := _, pos := _, after := _, guard := _ }) (v := ?_) rfl (by kernel_rfl) (by kernel_rfl) (by kernel_rfl) (fun _ _ _ h => h) (Or.inl ⟨by rfl, ?_⟩) (by assumption) ?_
  rotate_left
  · (intro W hSw; (try dsimp only at hSw); go_simp; try (with_reducible rfl))
  try simp only [Act.put, List.setIfInBounds_toArray, List.set_cons_zero, List.set_cons_succ]
  refine wpAnyH_take (i := 1) (oi := { dst := some 4, op := _, type := _, pos := _, after := _, guard := _ }) (v := ?_) rfl (by kernel_rfl) (by kernel_rfl) (by kernel_rfl) (fun _ _ _ h => h) (Or.inl ⟨by rfl, ?_⟩) (by assumption) ?_
  rotate_left
  · (intro W hSw; (try dsimp only at hSw); go_simp; try (with_reducible rfl))
  try simp only [Act.put, List.setIfInBounds_toArray, List.set_cons_zero, List.set_cons_succ]
  refine wpAnyH_take (i := 3) (oi := { dst := some 6, op := _, type := _, pos := _, after := _, guard := _ }) (v := ?_) rfl (by kernel_rfl) (by kernel_rfl) (by kernel_rfl) (fun _ _ _ h => h) (Or.inl ⟨by rfl, ?_⟩) (by assumption) ?_
  rotate_left
  · (intro W hSw; (try dsimp only at hSw); go_simp; try (with_reducible rfl))
  try simp only [Act.put, List.setIfInBounds_toArray, List.set_cons_zero, List.set_cons_succ]
  refine wpAnyH_take (i := 4) (oi := { dst := some 7, op := _, type := _, pos := _, after := _, guard := _ }) (v := ?_) rfl (by kernel_rfl) (by kernel_rfl) (by kernel_rfl) (fun _ _ _ h => h) (Or.inl ⟨by rfl, ?_⟩) (by assumption) ?_
  rotate_left
  · (intro W hSw; (try dsimp only at hSw); go_simp; try (with_reducible rfl))
  try simp only [Act.put, List.setIfInBounds_toArray, List.set_cons_zero, List.set_cons_succ]
  refine wpAnyH_take (i := 6) (oi := { dst := some 9, op := _, type := _, pos := _, after := _, guard := _ }) (v := ?_) rfl (by kernel_rfl) (by kernel_rfl) (by kernel_rfl) (fun _ _ _ h => h) (Or.inl ⟨by rfl, ?_⟩) (by assumption) ?_
  rotate_left
  · (intro W hSw; (try dsimp only at hSw); go_simp; try (with_reducible rfl))
  try simp only [Act.put, List.setIfInBounds_toArray, List.set_cons_zero, List.set_cons_succ]
  refine wpAnyH_take (i := 7) (oi := { dst := some 10, op := _, type := _, pos := _, after := _, guard := _ }) (v := ?_) rfl (by kernel_rfl) (by kernel_rfl) (by kernel_rfl) (fun _ _ _ h => h) (Or.inl ⟨by rfl, ?_⟩) (by assumption) ?_
  rotate_left
  · (intro W hSw; (try dsimp only at hSw); go_simp; try (with_reducible rfl))
  try simp only [Act.put, List.setIfInBounds_toArray, List.set_cons_zero, List.set_cons_succ]
  refine wpAnyH_take (i := 9) (oi := { dst := some 12, op := _, type := _, pos := _, after := _, guard := _ }) (v := ?_) rfl (by kernel_rfl) (by kernel_rfl) (by kernel_rfl) (fun _ _ _ h => h) (Or.inl ⟨by rfl, ?_⟩) (by assumption) ?_
  rotate_left
  · (intro W hSw; (try dsimp only at hSw); go_simp; try (with_reducible rfl))
  try simp only [Act.put, List.setIfInBounds_toArray, List.set_cons_zero, List.set_cons_succ]
  refine wpAnyH_take (i := 10) (oi := { dst := some 13, op := _, type := _, pos := _, after := _, guard := _ }) (v := ?_) rfl (by kernel_rfl) (by kernel_rfl) (by kernel_rfl) (fun _ _ _ h => h) (Or.inl ⟨by rfl, ?_⟩) (by assumption) ?_
  rotate_left
  · (intro W hSw; (try dsimp only at hSw); go_simp; try (with_reducible rfl))
  try simp only [Act.put, List.setIfInBounds_toArray, List.set_cons_zero, List.set_cons_succ]
  refine wpAnyH_take (i := 12) (oi := { dst := some 15, op := _, type := _, pos := _, after := _, guard := _ }) (v := ?_) rfl (by kernel_rfl) (by kernel_rfl) (by kernel_rfl) (fun _ _ _ h => h) (Or.inl ⟨by rfl, ?_⟩) (by assumption) ?_
  rotate_left
  · (intro W hSw; (try dsimp only at hSw); go_simp; try (with_reducible rfl))
  try simp only [Act.put, List.setIfInBounds_toArray, List.set_cons_zero, List.set_cons_succ]
  refine wpAnyH_take (i := 13) (oi := { dst := some 16, op := _, type := _, pos := _, after := _, guard := _ }) (v := ?_) rfl (by kernel_rfl) (by kernel_rfl) (by kernel_rfl) (fun _ _ _ h => h) (Or.inl ⟨by rfl, ?_⟩) (by assumption) ?_
  rotate_left
  · (intro W hSw; (try dsimp only at hSw); go_simp; try (with_reducible rfl))
  try simp only [Act.put, List.setIfInBounds_toArray, List.set_cons_zero, List.set_cons_succ]
  refine wpAnyH_take (i := 15) (oi := { dst := some 18, op := _, type := _, pos := _, after := _, guard := _ }) (v := ?_) rfl (by kernel_rfl) (by kernel_rfl) (by kernel_rfl) (fun _ _ _ h => h) (Or.inl ⟨by rfl, ?_⟩) (by assumption) ?_
  rotate_left
  · (intro W hSw; (try dsimp only at hSw); go_simp; try (with_reducible rfl))
  try simp only [Act.put, List.setIfInBounds_toArray, List.set_cons_zero, List.set_cons_succ]
  refine wpAnyH_take (i := 16) (oi := { dst := some 19, op := _, type := _, pos := _, after := _, guard := _ }) (v := ?_) rfl (by kernel_rfl) (by kernel_rfl) (by kernel_rfl) (fun _ _ _ h => h) (Or.inl ⟨by rfl, ?_⟩) (by assumption) ?_
  rotate_left
  · (intro W hSw; (try dsimp only at hSw); go_simp; try (with_reducible rfl))
  try simp only [Act.put, List.setIfInBounds_toArray, List.set_cons_zero, List.set_cons_succ]
  refine wpAnyH_take (i := 17) (oi := { dst := some 20, op := _, type := _, pos := _, after := _, guard := _ }) (v := ?_) rfl (by kernel_rfl) (by kernel_rfl) (by kernel_rfl) (fun _ _ _ h => h) (Or.inl ⟨by rfl, ?_⟩) (by assumption) ?_
  rotate_left
  · (intro W hSw; (try dsimp only at hSw); go_simp; try (with_reducible rfl))
  try simp only [Act.put, List.setIfInBounds_toArray, List.set_cons_zero, List.set_cons_succ]
  refine wpAnyH_take (i := 18) (oi := { dst := some 21, op := _, type := _, pos := _, after := _, guard := _ }) (v := ?_) rfl (by kernel_rfl) (by kernel_rfl) (by kernel_rfl) (fun _ _ _ h => h) (Or.inl ⟨by rfl, ?_⟩) (by assumption) ?_
  rotate_left
  · (intro W hSw; (try dsimp only at hSw); go_simp; try (with_reducible rfl))
  try simp only [Act.put, List.setIfInBounds_toArray, List.set_cons_zero, List.set_cons_succ]
  refine wpAnyH_take (i := 19) (oi := { dst := some 22, op := _, type := _, pos := _, after := _, guard := _ }) (v := ?_) rfl (by kernel_rfl) (by kernel_rfl) (by kernel_rfl) (fun _ _ _ h => h) (Or.inl ⟨by rfl, ?_⟩) (by assumption) ?_
  rotate_left
  · (intro W hSw; (try dsimp only at hSw); go_simp; try (with_reducible rfl))
  try simp only [Act.put, List.setIfInBounds_toArray, List.set_cons_zero, List.set_cons_succ]
  refine wpAnyH_take (i := 20) (oi := { dst := some 23, op := _, type := _, pos := _, after := _, guard := _ }) (v := ?_) rfl (by kernel_rfl) (by kernel_rfl) (by kernel_rfl) (fun _ _ _ h => h) (Or.inl ⟨by rfl, ?_⟩) (by assumption) ?_
  rotate_left
  · (intro W hSw; (try dsimp only at hSw); go_simp; try (with_reducible rfl))
  try simp only [Act.put, List.setIfInBounds_toArray, List.set_cons_zero, List.set_cons_succ]
  refine wpAnyH_take (i := 21) (oi := { dst := some 24, op := _, type := _, pos := _, after := _, guard := _ }) (v := ?_) rfl (by kernel_rfl) (by kernel_rfl) (by kernel_rfl) (fun _ _ _ h => h) (Or.inl ⟨by rfl, ?_⟩) (by assumption) ?_
  rotate_left
  · (intro W hSw; (try dsimp only at hSw); go_simp; try (with_reducible rfl))
  try simp only [Act.put, List.setIfInBounds_toArray, List.set_cons_zero, List.set_cons_succ]
  refine wpAnyH_take (i := 22) (oi := { dst := some 25, op := _, type := _, pos := _, after := _, guard := _ }) (v := ?_) rfl (by kernel_rfl) (by kernel_rfl) (by kernel_rfl) (fun _ _ _ h => h) (Or.inl ⟨by rfl, ?_⟩) (by assumption) ?_
  rotate_left
  · (intro W hSw; (try dsimp only at hSw); go_simp; try (with_reducible rfl))
  try simp only [Act.put, List.setIfInBounds_toArray, List.set_cons_zero, List.set_cons_succ]
  refine wpAnyH_take (i := 23) (oi := { dst := some 26, op := _, type := _, pos := _, after := _, guard := _ }) (v := ?_) rfl (by kernel_rfl) (by kernel_rfl) (by kernel_rfl) (fun _ _ _ h => h) (Or.inl ⟨by rfl, ?_⟩) (by assumption) ?_
  rotate_left
  · (intro W hSw; (try dsimp only at hSw); go_simp; try (with_reducible rfl))
  try simp only [Act.put, List.setIfInBounds_toArray, List.set_cons_zero, List.set_cons_succ]
  refine wpAnyH_take (i := 24) (oi := { dst := some 27, op := _, type := _, pos := _, after := _, guard := _ }) (v := ?_) rfl (by kernel_rfl) (by kernel_rfl) (by kernel_rfl) (fun _ _ _ h => h) (Or.inl ⟨by rfl, ?_⟩) (by assumption) ?_
  rotate_left
  · (intro W hSw; (try dsimp only at hSw); go_simp; try (with_reducible rfl))
  try simp only [Act.put, List.setIfInBounds_toArray, List.set_cons_zero, List.set_cons_succ]
  refine wpAnyH_take (i := 25) (oi := { dst := some 28, op := _, type := _, pos := _, after := _, guard := _ }) (v := ?_) rfl (by kernel_rfl) (by kernel_rfl) (by kernel_rfl) (fun _ _ _ h => h) (Or.inl ⟨by rfl, ?_⟩) (by assumption) ?_
  rotate_left
  · (intro W hSw; (try dsimp only at hSw); go_simp; try (with_reducible rfl))
  try simp only [Act.put, List.setIfInBounds_toArray, List.set_cons_zero, List.set_cons_succ]
  refine wpAnyH_take (i := 26) (oi := { dst := some 29, op := _, type := _, pos := _, after := _, guard := _ }) (v := ?_) rfl (by kernel_rfl) (by kernel_rfl) (by kernel_rfl) (fun _ _ _ h => h) (Or.inl ⟨by rfl, ?_⟩) (by assumption) ?_
  rotate_left
  · (intro W hSw; (try dsimp only at hSw); go_simp; try (with_reducible rfl))
  try simp only [Act.put, List.setIfInBounds_toArray, List.set_cons_zero, List.set_cons_succ]
  refine wpAnyH_take (i := 27) (oi := { dst := some 30, op := _, type := _, pos := _, after := _, guard := _ }) (v := ?_) rfl (by kernel_rfl) (by kernel_rfl) (by kernel_rfl) (fun _ _ _ h => h) (Or.inl ⟨by rfl, ?_⟩) (by assumption) ?_
  rotate_left
  · (intro W hSw; (try dsimp only at hSw); go_simp; try (with_reducible rfl))
  try simp only [Act.put, List.setIfInBounds_toArray, List.set_cons_zero, List.set_cons_succ]
  refine wpAnyH_take (i := 28) (oi := { dst := some 31, op := _, type := _, pos := _, after := _, guard := _ }) (v := ?_) rfl (by kernel_rfl) (by kernel_rfl) (by kernel_rfl) (fun _ _ _ h => h) (Or.inl ⟨by rfl, ?_⟩) (by assumption) ?_
  rotate_left
  · (intro W hSw; (try dsimp only at hSw); go_simp; try (with_reducible rfl))
  try simp only [Act.put, List.setIfInBounds_toArray, List.set_cons_zero, List.set_cons_succ]
  refine wpAnyH_ready (rs := [2]) (by kernel_rfl) (by simp) ?_
  refine AllReadyH.cons (o := { dst := some 5, op := _, type := _, pos := _, after := _, guard := _ }) rfl (fun K hK => ?_) AllReadyH.nil
  go_simp
  refine (num_any _ _).mono ?_
  rintro e1 x1 ⟨rfl, hx1⟩
  have hx1' := hx1.symm
  subst hx1'
  clear hx1
  go_wp2_with fail
  refine hK.out _ _ ?_ (fun hHeld => ?_)
  · exact HKS.out _ rfl
  clear hK K
  try simp only [Act.put, List.setIfInBounds_toArray, List.set_cons_zero, List.set_cons_succ]
  refine wpAnyH_ready (rs := [5]) (by kernel_rfl) (by simp) ?_
  refine AllReadyH.cons (o := { dst := some 8, op := _, type := _, pos := _, after := _, guard := _ }) rfl (fun K hK => ?_) AllReadyH.nil
  go_simp
  refine (num_any _ _).mono ?_
  rintro e1 x1 ⟨rfl, hx1⟩
  have hx1' := hx1.symm
  subst hx1'
  clear hx1
  go_wp2_with fail
  refine hK.out _ _ ?_ (fun hHeld => ?_)
  · exact HKS.out _ rfl
  clear hK K
  try simp only [Act.put, List.setIfInBounds_toArray, List.set_cons_zero, List.set_cons_succ]
  refine wpAnyH_ready (rs := [8]) (by kernel_rfl) (by simp) ?_
  refine AllReadyH.cons (o := { dst := some 11, op := _, type := _, pos := _, after := _, guard := _ }) rfl (fun K hK => ?_) AllReadyH.nil
  go_simp
  refine (num_any _ _).mono ?_
  rintro e1 x1 ⟨rfl, hx1⟩
  have hx1' := hx1.symm
  subst hx1'
  clear hx1
  go_wp2_with fail
  refine hK.out _ _ ?_ (fun hHeld => ?_)
  · exact HKS.out _ rfl
  clear hK K
  try simp only [Act.put, List.setIfInBounds_toArray, List.set_cons_zero, List.set_cons_succ]
  refine wpAnyH_ready (rs := [11]) (by kernel_rfl) (by simp) ?_
  refine AllReadyH.cons (o := { dst := some 14, op := _, type := _, pos := _, after := _, guard := _ }) rfl (fun K hK => ?_) AllReadyH.nil
  go_simp
  refine (num_any _ _).mono ?_
  rintro e1 x1 ⟨rfl, hx1⟩
  have hx1' := hx1.symm
  subst hx1'
  clear hx1
  go_wp2_with fail
  refine hK.out _ _ ?_ (fun hHeld => ?_)
  · exact HKS.out _ rfl
  clear hK K
  try simp only [Act.put, List.setIfInBounds_toArray, List.set_cons_zero, List.set_cons_succ]
  refine wpAnyH_ready (rs := [14]) (by kernel_rfl) (by simp) ?_
  refine AllReadyH.cons (o := { dst := some 17, op := _, type := _, pos := _, after := _, guard := _ }) rfl (fun K hK => ?_) AllReadyH.nil
  go_simp
  refine (num_any _ _).mono ?_
  rintro e1 x1 ⟨rfl, hx1⟩
  have hx1' := hx1.symm
  subst hx1'
  clear hx1
  go_wp2_with fail
  refine hK.out _ _ ?_ (fun hHeld => ?_)
  · exact HKS.out _ rfl
  clear hK K
  try simp only [Act.put, List.setIfInBounds_toArray, List.set_cons_zero, List.set_cons_succ]
  refine wpAnyH_take (i := 29) (oi := { dst := some 32, op := _, type := _, pos := _, after := _, guard := _ }) (v := ?_) rfl (by kernel_rfl) (by kernel_rfl) (by kernel_rfl) (fun _ _ _ h => h) (Or.inl ⟨by rfl, ?_⟩) (by assumption) ?_
  rotate_left
  · (intro W hSw; (try dsimp only at hSw); go_simp; try (with_reducible rfl))
  try simp only [Act.put, List.setIfInBounds_toArray, List.set_cons_zero, List.set_cons_succ]
  refine wpAnyH_ready (rs := [30]) (by kernel_rfl) (by simp) ?_
  refine AllReadyH.cons (o := { dst := none, op := _, type := _, pos := _, after := _, guard := _ }) rfl (fun K hK => ?_) AllReadyH.nil
  refine step_st (by rfl) 27 (.tmp 2) (.tmp 32) (by rfl) R #[Value.int .i64 (nm b0), .int .i64 (nm b1), .int .i64 (nm b2), .int .i64 (nm b3), .int .i64 (nm b4), .string (b5.extract 0 m5), .string (b6.extract 0 m6)] #[Value.int .i64 0, .int .i64 0, .int .i64 0, .int .i64 0, .int .i64 0, .string ⟨#[]⟩, .string ⟨#[]⟩] 27 (by rfl) (by rfl) (show Bx w0.drew R _ _ from HZ.out) hia (by rfl) (by simp [Value.oneCell']) ?_
  refine hK.out _ _ ?_ (fun hHeld => ?_)
  · exact HKS.out _ (setRow_other _ _ _ _ hne)
  clear hK K
  try simp only [Act.put, List.setIfInBounds_toArray, List.set_cons_zero, List.set_cons_succ]
  refine wpAnyH_done (by kernel_rfl) ?_ _
  have hZ9 : Bx (w0.drew.setRow R #[Value.int .i64 (nm b0), .int .i64 (nm b1), .int .i64 (nm b2), .int .i64 (nm b3), .int .i64 (nm b4), .string (b5.extract 0 m5), .string (b6.extract 0 m6)]) R #[Value.int .i64 (nm b0), .int .i64 (nm b1), .int .i64 (nm b2), .int .i64 (nm b3), .int .i64 (nm b4), .string (b5.extract 0 m5), .string (b6.extract 0 m6)] 27 := (show Bx w0.drew R _ _ from HZ.out).row
  have hF9 : Fr (fun x => x = R) w0 (w0.drew.setRow R #[Value.int .i64 (nm b0), .int .i64 (nm b1), .int .i64 (nm b2), .int .i64 (nm b3), .int .i64 (nm b4), .string (b5.extract 0 m5), .string (b6.extract 0 m6)]) := ((Fr.refl (fun x => x = R) w0).drewN 1).setRow (b := R) (.inl rfl) _
  generalize w0.drew.setRow R #[Value.int .i64 (nm b0), .int .i64 (nm b1), .int .i64 (nm b2), .int .i64 (nm b3), .int .i64 (nm b4), .string (b5.extract 0 m5), .string (b6.extract 0 m6)] = w9 at *
  clear HKS HZ
  go_wp2
  refine bodyPost_ret (res_c rfl _ _ _ rfl (run_loadVar_row w9 R 27 27 _ (0, 0) _ hZ9 Tryd.underlying27 rfl hia)) rfl ⟨rfl, ?_⟩
  exact below_fr HBL.out hF9 (fun k hk => by omega) (Nat.le_refl _)
end Go.Proofs.YtcpmaddleleblaaDoor.Gm
