/-
  The writer of wire: add, nums, texts, data.
-/
import Derived.Test.YtenkgpfeifflnaaGreatWiK
namespace Go.Proofs.YtenkgpfeifflnaaGreat.Ww
open Go.RowKit Kt Pl Wi Wk Wr
open At (RowT okT)
set_option linter.unusedVariables false
set_option maxRecDepth 20000

/-- What lies in no block of bytes stays. -/
structure U8 (w w' : World) : Prop where
  os : w'.os = w.os
  tape : w'.tape = w.tape
  output : w'.output = w.output
  size : w.heap.size ≤ w'.heap.size
  block : ∀ k, k < w.heap.size → (∀ cs fz, w.heap[k]? ≠ some (.cells cs 5 fz)) → w'.heap[k]? = w.heap[k]?
theorem U8.refl (w : World) : U8 w w := ⟨rfl, rfl, rfl, Nat.le_refl _, fun _ _ _ => rfl⟩
theorem U8.trans {a b c : World} (h : U8 a b) (k : U8 b c) : U8 a c :=
  ⟨k.os.trans h.os, k.tape.trans h.tape, k.output.trans h.output, Nat.le_trans h.size k.size, fun i hi hn => (k.block i (Nat.lt_of_lt_of_le hi h.size) (by rw [h.block i hi hn]; exact hn)).trans (h.block i hi hn)⟩
theorem U8.ofBelow {w w' : World} (h : Below w.heap.size w w') : U8 w w' := ⟨h.os, h.tape, h.output, h.size, fun k hk _ => h.block k hk⟩
theorem U8.ofGr {w w' : World} (h : Gr w w') : U8 w w' := U8.ofBelow h.below
theorem U8.alloc {a w : World} (h : U8 a w) (o : Obj) : U8 a (w.alloc o) := h.trans (U8.ofGr ((Gr.refl w).alloc o))
theorem U8.drew {a w : World} (h : U8 a w) : U8 a w.drew := h.trans (U8.ofGr ((Gr.refl w).drew))
theorem U8.grown {w w' : World} {base n : Nat} {v : Value} {xs : List Value} (h : w.ownsRow base 5 1 v n xs) (hg : w.grownBy w' v.ownBlock) : U8 w w' := by
  refine ⟨hg.os, hg.tape, hg.output, hg.size, fun k hk hn => hg.block k hk (fun e => ?_)⟩
  rcases h.2 with ⟨e1, e2⟩ | ⟨g, c, cur, e1, _, hb, _⟩
  · rw [e1] at e; simp [Value.ownBlock] at e
  · rw [e1] at e
    have : k = g := by simpa [Value.ownBlock] using e
    subst this
    exact hn _ _ hb
theorem Bx.u8 {w w' : World} {b : Nat} {cs : Array Value} {t : TypeId} (h : Bx w b cs t) (ht : t ≠ 5) (hu : U8 w w') : Bx w' b cs t := by
  unfold Bx
  rw [hu.block b h.lt (fun cs' fz e => ?_)]
  · exact h
  · rw [show w.heap[b]? = _ from h] at e
    injection e with e
    injection e with _ e2
    exact ht e2

/-- A writer: it owns these bytes, from a base on. -/
def Wt (w : World) (base : Nat) (v : Value) (bs : Bs) : Prop := w.ownsRow base 5 1 v bs.length (U bs)
theorem Wt.gr {w w' : World} {base : Nat} {v : Value} {bs : Bs} (h : Wt w base v bs) (hg : Gr w w') : Wt w' base v bs := by
  refine ⟨h.1, ?_⟩
  rcases h.2 with h1 | ⟨g, c, cur, e1, h2, h3, h4⟩
  · exact .inl h1
  · exact .inr ⟨g, c, cur, e1, h2, (hg.below.block g (Array.getElem?_eq_some_iff.1 h3).1).trans h3, h4⟩
theorem Wt.below {w w' : World} {base : Nat} {v : Value} {bs : Bs} (h : Wt w base v bs) (hg : Below w.heap.size w w') : Wt w' base v bs := by
  refine ⟨h.1, ?_⟩
  rcases h.2 with h1 | ⟨g, c, cur, e1, h2, h3, h4⟩
  · exact .inl h1
  · exact .inr ⟨g, c, cur, e1, h2, (hg.block g (Array.getElem?_eq_some_iff.1 h3).1).trans h3, h4⟩
theorem below_down {w w' : World} {base : Nat} (h : Below w.heap.size w w') (hb : base ≤ w.heap.size) : Below base w w' := ⟨h.os, h.tape, h.output, h.size, fun j hj => h.block j (by omega)⟩
theorem Wt.new (w : World) : Wt (w.alloc (.cells #[] 5)) w.heap.size (.slice (some ⟨w.heap.size, 0, none⟩) 0 0) [] :=
  World.ownsRow_made (e := 5) (size := 1) w #[] 0 (Nat.le_refl _) (Nat.zero_le _) rfl
theorem Wt.mono {w : World} {base base' : Nat} {v : Value} {bs : Bs} (h : Wt w base' v bs) (hb : base ≤ base') : Wt w base v bs := by
  refine ⟨h.1, ?_⟩
  rcases h.2 with h1 | ⟨g, c, cur, e1, h2, h3⟩
  · exact .inl h1
  · exact .inr ⟨g, c, cur, e1, Nat.le_trans hb h2, h3⟩
theorem Wt.form {w : World} {base : Nat} {v : Value} {bs : Bs} (h : Wt w base v bs) : ∃ ao cap, v = .slice ao bs.length cap := own_form h

/-- What a call of the writer leaves. -/
def Wrote (w : World) (base : Nat) (bs : Bs) (e : Ending) (w' : World) : Prop := ∃ v', e = .returned v' ∧ Wt w' base v' bs ∧ Below base w w' ∧ U8 w w'

theorem info5 : (Tryz.prog.info? 5).map (fun i => (i.zero, i.size, i.bytes)) = some (some (.int .u8 0), 1, 1) := by kernel_rfl

set_option maxHeartbeats 400000 in
theorem add_any (w : World) (base : Nat) (v : Value) (bs part : Bs) (ao : Option Addr) (cap : Nat) (e0 : Value) (hw : Wt w base v bs) (hb : base ≤ w.heap.size) (hr : Row w ao part) (hl : bs.length + part.length ≤ 3000000000) :
    Calls Tryz.prog 113 #[v, .slice ao part.length cap, e0] w fun e w' => Wrote w base (bs ++ part) e w' := by
  unfold Wt at hw
  go_enter Tryz.func113, Tryz.ntmps113
  go_wp2_with (at_builtin; refine wpList_append_own_src _ rfl (.tmp 7) (.tmp 8) 146 79 rfl base 5 (.int .u8 0) 1 1 Tryz.underlying146 info5 rfl (by decide) _ bs.length (U bs) rfl hw _ part.length (U part) rfl (Row.src Tryz.underlying79 hr cap) (by unfold maxLen; omega) (by omega) hb ?_; intro v2 w2 hown2 hgrow2)
  go_ret
  refine ⟨v2, rfl, ?_, below_own hw hgrow2 (Below.refl _ _) hb, U8.grown hw hgrow2⟩
  unfold Wt
  rw [List.length_append, U_append]
  exact hown2

theorem flat_take (l : List Int) (k : Nat) (x : Int) (hx : l[k]? = some x) : (l.take (k + 1)).flatMap encN = (l.take k).flatMap encN ++ encN x := by
  rw [List.take_add_one, hx, List.flatMap_append]; simp
theorem flat_len (l : List Int) (hok : ∀ x ∈ l, 0 ≤ x ∧ x ≤ 4611686018427387904) : (l.flatMap encN).length ≤ 9 * l.length := by
  induction l with
  | nil => simp
  | cons x l ih =>
    have h1 := ih (fun y hy => hok y (by simp [hy]))
    have h2 := hok x (by simp)
    have h3 : (encN x).length ≤ 9 := enc_len9 (by omega)
    simp only [List.flatMap_cons, List.length_append, List.length_cons]
    omega

set_option maxHeartbeats 2000000 in
theorem nums_any (w : World) (base : Nat) (v : Value) (bs : Bs) (hw : Wt w base v bs) (hb : base ≤ w.heap.size) (hn : bs.length ≤ 1000000000) (b : Nat) (cap : Nat) (l : List Int) (hB : Bx w b (I l).toArray 3) (hl : l.length ≤ 1000) (hok : ∀ x ∈ l, 0 ≤ x ∧ x ≤ 4611686018427387904) :
    Calls Tryz.prog 84 #[v, .slice (some ⟨b, 0, none⟩) l.length cap] w fun e w' => Wrote w base (bs ++ l.flatMap encN) e w' := by
  have HB := mkH hB
  have HO := mkH hok
  have HW := mkH hw
  clear hB hok hw
  go_enter Tryz.func84, Tryz.ntmps84
  go_wp2
  go_loopw [0, 6, 9] (fun v1 _ i wr => ∃ k : Nat, k ≤ l.length ∧ i = .int .i64 k ∧ Hid (Wt wr base v1 (bs ++ (l.take k).flatMap encN)) ∧ Hid (Below base w wr) ∧ Hid (U8 w wr)) (fun _ _ i _ => l.length - (intOf i).toNat)
  case atStart => exact ⟨0, Nat.zero_le _, rfl, mkH (by simpa using HW.out), mkH (Below.refl _ _), mkH (U8.refl _)⟩
  case round =>
    obtain ⟨k, hk, rfl, HW1, HBe, HU⟩ := hrel
    have hsz := HBe.out.size
    have hlen : ((l.take k).flatMap encN).length ≤ 9 * 1000 := by
      have h1 := flat_len (l.take k) (fun x hx => HO.out x (List.mem_of_mem_take hx))
      have h2 : (l.take k).length ≤ 1000 := by rw [List.length_take]; omega
      omega
    by_cases hlt : k < l.length
    · obtain ⟨x, hx⟩ : ∃ x, l[k]? = some x := ⟨_, List.getElem?_eq_getElem hlt⟩
      have hxo := HO.out x (List.mem_of_getElem? hx)
      have hB1 := Ww.Bx.u8 HB.out (by decide) HU.out
      have hck : wr.cell? ⟨b, k, none⟩ = some (.int .i64 x) := by rw [hB1.cell]; simp [Wk.I, hx]
      obtain ⟨m, rfl⟩ : ∃ m : Nat, x = (m : Int) := ⟨x.toNat, by omega⟩
      have HX := mkH hx
      have hm : m ≤ 4611686018427387904 := by omega
      have HM := mkH hm
      clear hx hB1 hm hxo
      go_wp2_with fail
      refine (num_ok wr none 0 m [] (Row.nil _ _) (by simp) HM.out).mono ?_
      rintro e w1 ⟨v2, rfl, hown2, hb2⟩
      rw [List.nil_append] at hown2
      have hl0 : ([] : List UInt8).length + (enc m).length = (enc m).length := by simp
      rw [hl0] at hown2
      obtain ⟨ao2, cap2, rfl⟩ := own_form hown2
      obtain ⟨-, -, hr2⟩ := Row.own hown2
      have h9 := enc_len9 HM.out
      have hgr : U8 wr w1 := U8.ofBelow hb2
      have hW1 : Wt w1 base u0 (bs ++ (l.take k).flatMap encN) := by
        refine ⟨HW1.out.1, ?_⟩
        rcases HW1.out.2 with h1 | ⟨g, c, cur, e1, h2, h3, h4⟩
        · exact .inl h1
        · exact .inr ⟨g, c, cur, e1, h2, (hb2.block g (Array.getElem?_eq_some_iff.1 h3).1).trans h3, h4⟩
      have hsz2 := hb2.size
      have HA := add_any w1 base u0 (bs ++ (l.take k).flatMap encN) (enc m) ao2 cap2 (.int .i64 0) hW1 (by omega) hr2 (by rw [List.length_append]; omega)
      have HF : Hid (bs ++ (l.take (k + 1)).flatMap encN = bs ++ (l.take k).flatMap encN ++ enc m) := mkH (by rw [flat_take _ _ _ HX.out, List.append_assoc]; rfl)
      have HB2 := mkH (HBe.out.trans (hb2.mono hsz |> fun h => (⟨h.os, h.tape, h.output, h.size, fun j hj => hb2.block j (by omega)⟩ : Below base wr w1)))
      have HU2 := mkH (HU.out.trans hgr)
      clear hown2 hr2 hW1 hb2 hgr HX HM HW1 HBe HU hck
      go_wp2_with fail
      refine HA.mono ?_
      rintro e w3 ⟨v3, rfl, hw3, hb3, hu3⟩
      rw [← HF.out] at hw3
      have HW3 := mkH hw3
      have HB3 := mkH (HB2.out.trans hb3)
      have HU3 := mkH (HU2.out.trans hu3)
      clear HA hw3 hb3 hu3 HB2 HU2 HF
      go_wp2
      go_roundw
      case rel => exact ⟨k + 1, by omega, by go_num, HW3, HB3, HU3⟩
      case measure => simp [intOf]; omega
    · have hW := HW1.out
      rw [List.take_of_length_le (by omega)] at hW
      have HW2 := mkH hW
      clear hW HW1
      go_wp2
      go_ret
      exact ⟨_, rfl, HW2.out, HBe.out, HU.out⟩
theorem flatT_take (l : List Bs) (k : Nat) (x : Bs) (hx : l[k]? = some x) : (l.take (k + 1)).flatMap encText = (l.take k).flatMap encText ++ encText x := by
  rw [List.take_add_one, hx, List.flatMap_append]; simp
theorem flatT_len (l : List Bs) (hok : ∀ x ∈ l, x.length ≤ 4096) : (l.flatMap encText).length ≤ 4105 * l.length := by
  induction l with
  | nil => simp
  | cons x l ih =>
    have h1 := ih (fun y hy => hok y (by simp [hy]))
    have h2 := hok x (by simp)
    have h3 : (encText x).length ≤ 4105 := by unfold encText; rw [List.length_append]; have := enc_len9 (n := x.length) (by omega); omega
    simp only [List.flatMap_cons, List.length_append, List.length_cons]
    omega

set_option maxHeartbeats 2000000 in
theorem texts_any (w : World) (base : Nat) (v : Value) (bs : Bs) (hw : Wt w base v bs) (hb : base ≤ w.heap.size) (hn : bs.length ≤ 1000000000) (b : Nat) (cap : Nat) (l : List Bs) (hB : Bx w b (T l).toArray 9) (hl : l.length ≤ 1000) (hok : ∀ x ∈ l, x.length ≤ 4096) :
    Calls Tryz.prog 115 #[v, .slice (some ⟨b, 0, none⟩) l.length cap] w fun e w' => Wrote w base (bs ++ l.flatMap encText) e w' := by
  have HB := mkH hB
  have HO := mkH hok
  have HW := mkH hw
  clear hB hok hw
  go_enter Tryz.func115, Tryz.ntmps115
  go_wp2
  go_loopw [0, 6, 9] (fun v1 _ i wr => ∃ k : Nat, k ≤ l.length ∧ i = .int .i64 k ∧ Hid (Wt wr base v1 (bs ++ (l.take k).flatMap encText)) ∧ Hid (Below base w wr) ∧ Hid (U8 w wr)) (fun _ _ i _ => l.length - (intOf i).toNat)
  case atStart => exact ⟨0, Nat.zero_le _, rfl, mkH (by simpa using HW.out), mkH (Below.refl _ _), mkH (U8.refl _)⟩
  case round =>
    obtain ⟨k, hk, rfl, HW1, HBe, HU⟩ := hrel
    have hsz := HBe.out.size
    have hlen : ((l.take k).flatMap encText).length ≤ 4105 * 1000 := by
      have h1 := flatT_len (l.take k) (fun x hx => HO.out x (List.mem_of_mem_take hx))
      have h2 : (l.take k).length ≤ 1000 := by rw [List.length_take]; omega
      omega
    by_cases hlt : k < l.length
    · obtain ⟨x, hx⟩ : ∃ x, l[k]? = some x := ⟨_, List.getElem?_eq_getElem hlt⟩
      have hxo := HO.out x (List.mem_of_getElem? hx)
      have hB1 := Ww.Bx.u8 HB.out (by decide) HU.out
      have hck : wr.cell? ⟨b, k, none⟩ = some (.string (S x)) := by rw [hB1.cell]; simp [T, hx]
      have HX := mkH hx
      have HM := mkH hxo
      clear hx hB1 hxo
      go_wp2_with fail
      refine (text_ok wr none 0 (S x) [] (Row.nil _ _) (by simp) HM.out).mono ?_
      rintro e w1 ⟨v2, rfl, hown2, hb2⟩
      rw [List.nil_append] at hown2
      change w1.ownsRow wr.heap.size 5 1 v2 (([] : List UInt8).length + (encText x).length) (U (encText x)) at hown2
      have hl0 : ([] : List UInt8).length + (encText x).length = (encText x).length := by simp
      rw [hl0] at hown2
      obtain ⟨ao2, cap2, rfl⟩ := own_form hown2
      obtain ⟨-, -, hr2⟩ := Row.own hown2
      have h9 : (encText x).length ≤ 4105 := by unfold encText; rw [List.length_append]; have := enc_len9 (n := x.length) (by have := HM.out; omega); have := HM.out; omega
      have hgr : U8 wr w1 := U8.ofBelow hb2
      have hW1 : Wt w1 base u0 (bs ++ (l.take k).flatMap encText) := by
        refine ⟨HW1.out.1, ?_⟩
        rcases HW1.out.2 with h1 | ⟨g, c, cur, e1, h2, h3, h4⟩
        · exact .inl h1
        · exact .inr ⟨g, c, cur, e1, h2, (hb2.block g (Array.getElem?_eq_some_iff.1 h3).1).trans h3, h4⟩
      have hsz2 := hb2.size
      have HA := add_any w1 base u0 (bs ++ (l.take k).flatMap encText) (encText x) ao2 cap2 (.int .i64 0) hW1 (by omega) hr2 (by rw [List.length_append]; omega)
      have HF : Hid (bs ++ (l.take (k + 1)).flatMap encText = bs ++ (l.take k).flatMap encText ++ encText x) := mkH (by rw [flatT_take _ _ _ HX.out, List.append_assoc])
      have HB2 := mkH (HBe.out.trans (hb2.mono hsz |> fun h => (⟨h.os, h.tape, h.output, h.size, fun j hj => hb2.block j (by omega)⟩ : Below base wr w1)))
      have HU2 := mkH (HU.out.trans hgr)
      clear hown2 hr2 hW1 hb2 hgr HX HM HW1 HBe HU hck
      go_wp2_with fail
      refine HA.mono ?_
      rintro e w3 ⟨v3, rfl, hw3, hb3, hu3⟩
      rw [← HF.out] at hw3
      have HW3 := mkH hw3
      have HB3 := mkH (HB2.out.trans hb3)
      have HU3 := mkH (HU2.out.trans hu3)
      clear HA hw3 hb3 hu3 HB2 HU2 HF
      go_wp2
      go_roundw
      case rel => exact ⟨k + 1, by omega, by go_num, HW3, HB3, HU3⟩
      case measure => simp [intOf]; omega
    · have hW := HW1.out
      rw [List.take_of_length_le (by omega)] at hW
      have HW2 := mkH hW
      clear hW HW1
      go_wp2
      go_ret
      exact ⟨_, rfl, HW2.out, HBe.out, HU.out⟩

set_option maxHeartbeats 400000 in
theorem data_any (w : World) (base : Nat) (v : Value) (bs : Bs) (hw : Wt w base v bs) (hb : base ≤ w.heap.size) (hn : bs.length ≤ 1000000000) (ao : Option Addr) (cap : Nat) (l : List Bs) (hr : RowT w ao l) (hl : l.length ≤ 1024) (hok : ∀ x ∈ l, x.length ≤ 4096) :
    Calls Tryz.prog 86 #[v, .slice ao l.length cap] w fun e w' => Wrote w base (bs ++ encList encText l) e w' := by
  have HO := mkH hok
  have HW := mkH hw
  have HT := At.texts_any w none 0 [] (Row.nil _ _) (by simp) ao cap l hr hl
  have h9 : (encList encText l).length ≤ 9 + 4105 * 1024 := by
    unfold encList
    rw [List.length_append]
    have h1 := flatT_len l hok
    have h2 := enc_len9 (n := l.length) (by omega)
    omega
  clear hok hw hr
  go_enter Tryz.func86, Tryz.ntmps86
  go_wp2_with fail
  refine HT.mono ?_
  rintro e w1 (⟨hg, v2, rfl, hown2, hb2⟩ | ⟨hg, rfl, hb2⟩)
  · rw [List.nil_append] at hown2
    have hl0 : ([] : List UInt8).length + (encList encText l).length = (encList encText l).length := by simp
    rw [hl0] at hown2
    obtain ⟨ao2, cap2, rfl⟩ := own_form hown2
    obtain ⟨-, -, hr2⟩ := Row.own hown2
    have hsz2 := hb2.size
    have HA := add_any w1 base v bs (encList encText l) ao2 cap2 (.int .i64 0) (HW.out.below hb2) (by omega) hr2 (by omega)
    have HB2 := mkH (below_down hb2 hb)
    have HU2 := mkH (U8.ofBelow hb2)
    clear hown2 hr2 hb2 HT HW hg
    go_wp2_with fail
    refine HA.mono ?_
    rintro e w3 ⟨v3, rfl, hw3, hb3, hu3⟩
    have HW3 := mkH hw3
    have HB3 := mkH (HB2.out.trans hb3)
    have HU3 := mkH (HU2.out.trans hu3)
    clear hw3 hb3 hu3
    go_wp2
    go_ret
    exact ⟨v3, rfl, HW3.out, HB3.out, HU3.out⟩
  · exact absurd (fun x hx => HO.out x hx) hg
end Go.Proofs.YtenkgpfeifflnaaGreat.Ww
