/-
  The contracts of All and of 'works'.
-/
import Derived.Test.YtjmhgifdkmglhabDoorCrcG
import Derived.Lib.SlBytesConst
namespace Go.Proofs.YtjmhgifdkmglhabDoor.Ck
open Go.RowKit Kt Cs Cw Cf Cn Cg
set_option linter.unusedVariables false

theorem neq_func {P : Program} (w : World) (t : TypeId) (ps rs : Array TypeId) (b : Bool) (f : Fn) (x y : Array Value) (h : P.underlying t = some (.func ps rs b)) : (binOp .neq t (.func f x y) .nilFunc).run P w = .ok (.bool true) w := by
  have h1 : ∀ d, (Op.equalIn (d + 1) t (.func f x y) .nilFunc).run P w = .ok false w := fun d => by simp [Op.equalIn, run_underlying h]
  have h2 : (Op.equal t (.func f x y) .nilFunc).run P w = .ok false w := h1 9999
  simp only [binOp]
  simp [h2]

theorem cell_new_atF (W : World) (cs : Array Value) (t : TypeId) (fr : Nat × Nat) (j : Nat) (v : Value) (h : cs[j]? = some v) : (W.alloc (.cells cs t fr)).cell? ⟨W.heap.size, j, none⟩ = some v := by
  have h1 := heap_alloc_new W (.cells cs t fr)
  simp only [World.cell?, h1]; exact h
theorem row_newF (W : World) (cs : Array Value) (t : TypeId) (fr : Nat × Nat) (bs : List UInt8) (h : cs = (U bs).toArray) : Row (W.alloc (.cells cs t fr)) (some ⟨W.heap.size, 0, none⟩) bs := by
  intro _
  refine ⟨_, 0, rfl, fun i hi => ?_⟩
  rw [Nat.zero_add]
  refine cell_new_atF W cs t fr i _ ?_
  rw [h]
  have := U_at bs i hi
  simpa using this

set_option maxHeartbeats 1000000 in
set_option maxRecDepth 20000 in
theorem all_any (w : World) (ao : Option Addr) (cap : Nat) (bs : List UInt8) (hr : Row w ao bs) (hl : bs.length ≤ 1000000) :
    Calls Tryd.prog 6 #[.slice ao bs.length cap] w fun e W' => ∃ Bx a2 c2, e = .returned (.func (.func 13) #[] #[.pointer (some ⟨Bx, 0, none⟩)]) ∧ w.heap.size ≤ Bx ∧ W'.heap[Bx]? = some (.cells #[.slice a2 bs.length c2] 23) ∧ Row W' a2 bs ∧ bs.length ≤ c2 ∧ c2 ≤ 9223372036854775807 ∧ Below w.heap.size w W' := by
  go_enter Tryd.func6, Tryd.ntmps6
  go_wp2_with fail
  refine (clone_any w ao cap bs hr (by omega)).mono ?_
  rintro e w1 ⟨v1, rfl, hown1, hb1⟩
  obtain ⟨a2, c2, rfl, -, hc2, hr2⟩ := own_row hown1
  have hcm := own_cap hown1
  clear hown1
  go_wp2
  go_ret
  exact ⟨_, a2, c2, rfl, hb1.size, heap_alloc_new _ _, hr2.below ((Below.refl _ w1).alloc (Nat.le_refl _) _), hc2, hcm, hb1.alloc hb1.size _⟩

theorem sum9 : Cp.sum [49, 50, 51, 52, 53, 54, 55, 56, 57] = 3421780262 := by decide +kernel
theorem frameA : Cp.frame [97] = [1, 0, 0, 0, 121, 184, 248, 153, 67, 190, 183, 232, 97] := by decide +kernel
theorem gendA : gend ([1, 0, 0, 0, 121, 184, 248, 153, 67, 190, 183, 232, 97] ++ [7]) = 13 := by decide +kernel
theorem goodA : goodE ([1, 0, 0, 0, 121, 184, 248, 153, 67, 190, 183, 232, 97] ++ [7]) = 4 := by decide +kernel

set_option maxHeartbeats 1000000 in
set_option maxRecDepth 20000 in
theorem works_any (w : World) (hT : Tb w) : Calls Tryd.prog 9 #[] w fun e w' => e = .returned (.bool true) ∧ Below w.heap.size w w' := by
  have hT0 := hT.size
  go_enter Tryd.func9, Tryd.ntmps9
  have kc := fun (w : World) (C : Array Value) (n c : Nat) => Lib.run_convert_bytes_const (P := Tryd.prog) w 23 5 C n c Tryd.underlying23 Tryd.underlying5
  go_wp2_with fail
  refine (frame_ok _ _ _ [97] (hT.below ((Below.refl _ w).alloc (Nat.le_refl _) _) hT0) (row_newF w _ _ _ [97] rfl) (by simp)).mono ?_
  rintro e w1 ⟨v1, rfl, hown1, hb1⟩
  have hb1 : Below w.heap.size w w1 := ((Below.refl _ w).alloc (Nat.le_refl _) _).trans (hb1.mono (by simp))
  rw [frameA] at hown1
  obtain ⟨a1, c1, rfl, -, hc1, hr1⟩ := own_row hown1
  simp only [List.length_cons, List.length_nil, Nat.zero_add, Nat.reduceAdd] at hown1 hc1
  go_wp2_with (at_builtin; refine (wpList_append_own_src _ rfl (.tmp 12) (.tmp 13) 23 23 rfl w.heap.size 5 (.int .u8 0) 1 1 Tryd.underlying23 info5 rfl (by decide) _ 0 [] rfl (World.ownsRow_made w1 #[] 0 hb1.size (Nat.zero_le _) rfl) _ 13 (U [1, 0, 0, 0, 121, 184, 248, 153, 67, 190, 183, 232, 97]) rfl ?hsrc ?h63 ?hby ?hbs ?_))
  case hsrc => exact Row.src (P := Tryd.prog) Tryd.underlying23 (hr1.below ((Below.refl w1.heap.size w1).alloc (Nat.le_refl _) (.cells #[] 5))) c1
  case h63 => unfold maxLen; omega
  case hby => omega
  case hbs => have := hb1.size; simp; omega
  intro v2 w2 hown2 hgrow2
  have hb2 := below_own (World.ownsRow_made (e := 5) (size := 1) w1 #[] 0 hb1.size (Nat.zero_le _) rfl) hgrow2 (hb1.alloc hb1.size (.cells #[] 5)) (by have := hb1.size; simp; omega)
  have hown2 : w2.ownsRow w.heap.size 5 1 v2 13 (U [1, 0, 0, 0, 121, 184, 248, 153, 67, 190, 183, 232, 97]) := by simpa using hown2
  clear hown1 hgrow2 hr1 hc1
  go_wp2_with (at_builtin; refine (wpList_append_own_src _ rfl (.tmp 14) (.tmp 15) 23 23 rfl w.heap.size 5 (.int .u8 0) 1 1 Tryd.underlying23 info5 rfl (by decide) _ 13 _ rfl (hown2.alloc _) _ 1 (U [7]) rfl (src_one Tryd.underlying23 _ _ _ rfl) ?h632 ?hby2 ?hbs2 ?_))
  case h632 => unfold maxLen; omega
  case hby2 => omega
  case hbs2 => have := hb2.size; simp; omega
  intro v3 w3 hown3 hgrow3
  have hb3 := below_own (hown2.alloc _) hgrow3 (hb2.alloc hb2.size _) (by have := hb2.size; simp; omega)
  rw [← U_append] at hown3
  clear hown2 hgrow3 hb2
  obtain ⟨a3, c3, rfl, -, hc3, hr3⟩ := own_row hown3
  have hcm := own_cap hown3
  have hG := good_any w3 a3 c3 _ (hT.below hb3 hT0) hr3 (by simp) hc3 hcm
  rw [gendA, goodA] at hG
  simp only [List.length_append, List.length_cons, List.length_nil, Nat.zero_add, Nat.reduceAdd] at hG
  go_wp2_with fail
  refine hG.mono ?_
  rintro e w4 ⟨rfl, hb4⟩
  have hb4 : Below w.heap.size w w4 := hb3.trans (hb4.mono hb3.size)
  clear hG hown3 hr3 hb3 hc3 hcm
  have nf := fun (W : World) (x y : Array Value) => neq_func (P := Tryd.prog) W 30 _ _ _ (.func 13) x y Tryd.underlying30
  go_wp2_with fail
  have hb5 := (hb4.alloc hb4.size (.cells #[.int .u8 49, .int .u8 50, .int .u8 51, .int .u8 52, .int .u8 53, .int .u8 54, .int .u8 55, .int .u8 56, .int .u8 57] 5 (9, 10)))
  have hc5 := cell_new_at (w4.alloc (.cells #[.int .u8 49, .int .u8 50, .int .u8 51, .int .u8 52, .int .u8 53, .int .u8 54, .int .u8 55, .int .u8 56, .int .u8 57] 5 (9, 10))) #[.slice (some ⟨w4.heap.size, 0, none⟩) 9 9] 23 0 _ rfl
  rw [World.size_alloc] at hc5
  refine (sum_part _ _ (some ⟨w4.heap.size, 0, none⟩) 9 _ 9 [49, 50, 51, 52, 53, 54, 55, 56, 57] 3421780262 sum9 rfl (by simp) (hT.below (hb5.alloc hb5.size _) hT0) (w4.heap.size + 1) rfl hc5 ((row_newF w4 _ _ (9, 10) [49, 50, 51, 52, 53, 54, 55, 56, 57] rfl).below ((Below.refl _ _).alloc (Nat.le_refl _) _))).mono ?_
  rintro e w5 ⟨rfl, rfl⟩
  have hb6 := hb5.alloc hb5.size (.cells #[.slice (some ⟨w4.heap.size, 0, none⟩) 9 9] 23)
  clear hc5 hb5 hb4 kc
  generalize (w4.alloc (.cells #[.int .u8 49, .int .u8 50, .int .u8 51, .int .u8 52, .int .u8 53, .int .u8 54, .int .u8 55, .int .u8 56, .int .u8 57] 5 (9, 10))).alloc (.cells #[.slice (some ⟨w4.heap.size, 0, none⟩) 9 9] 23) = w6 at hb6 ⊢
  go_wp2_with fail
  refine (all_any w6 none 0 [] (Row.nil _ _) (by simp)).mono ?_
  rintro e w7 ⟨Bx, a2, c2, rfl, -, -, -, -, -, hb7⟩
  go_wp2
  go_ret
  exact ⟨rfl, hb6.trans (hb7.mono hb6.size)⟩
end Go.Proofs.YtjmhgifdkmglhabDoor.Ck
