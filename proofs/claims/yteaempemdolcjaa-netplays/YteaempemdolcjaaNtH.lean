/-
  Bags of string: Put of what was just made, Take, Double.
-/
import Derived.Test.YteaempemdolcjaaNtF
namespace Go.Proofs.Yteaempemdolcjaa.Nh
open Go.RowKit Kt Gf Nr Gk Ns Nv Ks Gv Nb Nd Nff
set_option linter.unusedVariables false
set_option linter.unusedSimpArgs false
set_option maxRecDepth 20000

theorem putnew {C : Nat → Prop} {w W : World} {b : Nat} {L : List (Int × ByteArray)} {p : Int} (h : Bg C w b L p) (hC : ∀ k, w.heap.size ≤ k → C k) (hB : Below w.heap.size w W) (s : Nat) (hs : w.heap.size ≤ s) (hs2 : s < W.heap.size) (cap : Nat) (xs : List ByteArray) (hx : RowE W (some ⟨s, 0, none⟩) xs) (hl : L.length + xs.length ≤ 1000000) (hp : 0 ≤ p) (hp2 : p ≤ 1000000) (hcap : xs.length ≤ cap) (hcap2 : cap ≤ 9223372036854775807) :
    Calls Try.prog 34 #[.pointer (some ⟨b, 0, none⟩), .slice (some ⟨s, 0, none⟩) xs.length cap] W fun e w' => e = .returned (.tuple #[]) ∧ Bg C w' b (L ++ num p xs) (p + xs.length) ∧ Fr (Ft C b w) w w' := by
  have hb := h.lt
  have h1 : Bg (fun k => C k ∧ k ≠ s) W b L p := by
    obtain ⟨ao, cap, h1, h2, h3⟩ := h
    exact ⟨ao, cap, h1.bel hB, own_below h2 hB, fun k hk => ⟨h3 k hk, by have := (h2.lt k hk).2; omega⟩⟩
  refine (put_any h1 _ cap xs hx (fun a ha _ => ?_) (fun k hk => ⟨hC k (by have := hB.size; omega), by omega⟩) hl hp hp2 hcap hcap2).mono ?_
  · cases ha
    exact ⟨by show s ≠ b; omega, fun hc => hc.2 rfl⟩
  · rintro e w' ⟨rfl, hg, hf⟩
    refine ⟨rfl, hg.mono (fun k hk => hk.1), ?_⟩
    refine (Fr.ofBelow hB).trans hf (fun i hi => ?_)
    by_cases hlt : i < w.heap.size
    · left
      rcases hi with rfl | ⟨hc, cur, e⟩
      · exact .inl rfl
      · exact .inr ⟨hc.1, cur, by rw [← hB.block i hlt]; exact e⟩
    · right; omega

theorem take_out {C : Nat → Prop} {w : World} {b : Nat} {L : List (Int × ByteArray)} {p : Int} (h : Bg C w b L p) (i : Int) (hi : i < 0 ∨ (L.length : Int) ≤ i) : Calls Try.prog 35 #[.pointer (some ⟨b, 0, none⟩), .int .i64 i] w fun e w' => e = .returned (.tuple #[(.string ByteArray.empty), .bool false]) ∧ w' = w := by
  have HG := mkH (get_out h i hi)
  clear h hi
  go_enter Try.func35, Try.ntmps35
  go_wp2_with (go_at_call 36; refine HG.out.mono ?_; rintro e w1 ⟨rfl, rfl⟩)
  go_ret2
  exact ⟨rfl, rfl⟩
theorem take_nil (w : World) (i : Int) : Calls Try.prog 35 #[.pointer none, .int .i64 i] w fun e w' => e = .returned (.tuple #[(.string ByteArray.empty), .bool false]) ∧ w' = w := by
  have HG := mkH (get_nil w i)
  go_enter Try.func35, Try.ntmps35
  go_wp2_with (go_at_call 36; refine HG.out.mono ?_; rintro e w1 ⟨rfl, rfl⟩)
  go_ret2
  exact ⟨rfl, rfl⟩
theorem take_in {C : Nat → Prop} {w : World} {b : Nat} {L : List (Int × ByteArray)} {p : Int} (h : Bg C w b L p) (k : Nat) (x : Int × ByteArray) (hx : L[k]? = some x) (hl : L.length ≤ 1000000) : Calls Try.prog 35 #[.pointer (some ⟨b, 0, none⟩), .int .i64 (k : Int)] w fun e w' => e = .returned (.tuple #[(.string x.2), .bool true]) ∧ Bg C w' b (L.take k ++ L.drop (k + 1)) p ∧ Fr (Ft C b w) w w' := by
  have HG := mkH (get_in h k x hx)
  have hk := lt_of hx
  obtain ⟨ao, cap, h1, h2, h3⟩ := h
  have c0 : w.cell? ⟨b, 0, none⟩ = some (.slice ao L.length cap) := h1.cell 0 _ rfl
  have HD := mkH (delete_any w ao cap k L h2 hk hl)
  have hLL : (L.take k ++ L.drop (k + 1)).length = L.length - 1 := by rw [List.length_append, List.length_take, List.length_drop]; omega
  have HFIN : Hid (∀ w1, w1.ownsRow 0 76 2 (.slice ao (L.length - 1) cap) (L.length - 1) (Fi (L.take k ++ L.drop (k + 1))) → Fr (fun q => (Value.slice ao L.length cap).ownBlock = some q) w w1 →
      w1.frozen? ⟨b, 0, none⟩ = false ∧ (∃ v, w1.cell? ⟨b, 0, none⟩ = some v) ∧ Bg C (w1.setCell ⟨b, 0, none⟩ (.slice ao (L.length - 1) cap)) b (L.take k ++ L.drop (k + 1)) p ∧ Fr (Ft C b w) w (w1.setCell ⟨b, 0, none⟩ (.slice ao (L.length - 1) cap))) := mkH (fun w1 ho hf => by
    have hnb : ¬ (Value.slice ao L.length cap).ownBlock = some b := fun e => own_ne h2 h1 e (by decide) rfl
    have b2 : Bx w1 b #[.slice ao L.length cap, .int .i64 p] 64 := h1.fr hf hnb
    have f2 := b2.frset 0 (.slice ao (L.length - 1) cap)
    refine ⟨b2.frozen 0, ⟨_, b2.cell 0 _ rfl⟩, ⟨ao, cap, ?_, ?_, ?_⟩, ?_⟩
    · rw [hLL]; exact b2.set 0 _
    · rw [hLL]
      exact own_fr ho f2 (fun k hk e => by subst e; exact own_ne ho b2 hk (by decide) rfl)
    · intro j hj
      exact h3 j (by cases ao with | none => simp [Value.ownBlock] at hj | some a => exact hj)
    · refine (hf.mono (fun j hj => ?_)).trans f2 (fun i hi => .inl (.inl hi))
      rcases h2.2 with ⟨e, -⟩ | ⟨g, c, cur, e, -, hg, -⟩
      · rw [e] at hj; simp [Value.ownBlock] at hj
      · have hk2 := hj
        rw [e] at hk2
        simp only [Value.ownBlock, Option.some.injEq] at hk2
        subst hk2
        exact .inr ⟨h3 _ hj, cur, hg⟩)
  clear h1 h2 h3 hLL hx
  go_enter Try.func35, Try.ntmps35
  go_wp2_with (first
    | (go_at_call 36; refine HG.out.mono ?_; rintro e w1 ⟨rfl, rfl⟩)
    | (go_at_call 46; refine HD.out.mono ?_; rintro e w2 ⟨rfl, ho2, hf2⟩; obtain ⟨q1, ⟨q2, q3⟩, q4, q5⟩ := HFIN.out w2 ho2 hf2; have H4 := mkH q4; have H5 := mkH q5; clear ho2 hf2 q4 q5))
  go_ret2
  exact ⟨rfl, H4.out, H5.out⟩

theorem double_out {C : Nat → Prop} {w : World} {b : Nat} {L : List (Int × ByteArray)} {p : Int} (h : Bg C w b L p) (i : Int) (hi : i < 0 ∨ (L.length : Int) ≤ i) : Calls Try.prog 37 #[.pointer (some ⟨b, 0, none⟩), .int .i64 i] w fun e w' => e = .returned (.bool false) ∧ w' = w := by
  have HG := mkH (get_out h i hi)
  clear h hi
  go_enter Try.func37, Try.ntmps37
  go_wp2_with (go_at_call 36; refine HG.out.mono ?_; rintro e w1 ⟨rfl, rfl⟩)
  go_ret
  exact ⟨rfl, rfl⟩
theorem double_nil (w : World) (i : Int) : Calls Try.prog 37 #[.pointer none, .int .i64 i] w fun e w' => e = .returned (.bool false) ∧ w' = w := by
  have HG := mkH (get_nil w i)
  go_enter Try.func37, Try.ntmps37
  go_wp2_with (go_at_call 36; refine HG.out.mono ?_; rintro e w1 ⟨rfl, rfl⟩)
  go_ret
  exact ⟨rfl, rfl⟩
theorem double_in {C : Nat → Prop} {w : World} {b : Nat} {L : List (Int × ByteArray)} {p : Int} (h : Bg C w b L p) (hC : ∀ k, w.heap.size ≤ k → C k) (k : Nat) (x : Int × ByteArray) (hx : L[k]? = some x) (hl : L.length < 1000000) (hp : 0 ≤ p) (hp2 : p ≤ 1000000) : Calls Try.prog 37 #[.pointer (some ⟨b, 0, none⟩), .int .i64 (k : Int)] w fun e w' => e = .returned (.bool true) ∧ Bg C w' b (L ++ [(p, x.2)]) (p + 1) ∧ Fr (Ft C b w) w w' := by
  have HG := mkH (get_in h k x hx)
  have HP := mkH (putnew h hC ((Below.refl _ w).alloc (Nat.le_refl _) (.cells #[(.string x.2)] 9)) w.heap.size (Nat.le_refl _) (by simp) 1 [x.2] (RowE.new1 w x.2 9) (by simp; omega) hp hp2 (by simp) (by omega))
  clear h hC hx
  go_enter Try.func37, Try.ntmps37
  go_wp2_with (first
    | (go_at_call 36; refine HG.out.mono ?_; rintro e w1 ⟨rfl, rfl⟩)
    | (go_at_call 34; refine HP.out.mono ?_; rintro e w2 ⟨rfl, q4, q5⟩; have H4 := mkH q4; have H5 := mkH q5; clear q4 q5))
  go_ret
  exact ⟨rfl, by have := H4.out; simpa [num] using this, H5.out⟩
end Go.Proofs.Yteaempemdolcjaa.Nh
