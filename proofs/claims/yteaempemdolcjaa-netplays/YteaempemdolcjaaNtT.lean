/-
  The document's bag.
-/
import Derived.Test.YteaempemdolcjaaNtQ
namespace Go.Proofs.Yteaempemdolcjaa.Nt
open Go.RowKit Kt Gf Nr Gk Nv Ns Ks Nw Nx Na No Np
set_option linter.unusedVariables false
set_option linter.unusedSimpArgs false
set_option maxRecDepth 20000

/-- Block rb is the document's bag that has this. -/
def Rg (w : World) (rb : Nat) (L : List Int) : Prop :=
  ∃ ao cap, Bx w rb #[.slice ao L.length cap] 30 ∧ w.ownsRow 0 3 1 (.slice ao L.length cap) L.length (Iv L)
theorem Rg.below {w w' : World} {rb : Nat} {L : List Int} (h : Rg w rb L) (hb : Below w.heap.size w w') : Rg w' rb L := by
  obtain ⟨ao, cap, h1, h2⟩ := h
  exact ⟨ao, cap, h1.bel hb, own_below h2 hb⟩
/-- It stays where neither its block nor a row of numbers turns. -/
theorem Rg.fr {Q : Nat → Prop} {w w' : World} {rb : Nat} {L : List Int} (h : Rg w rb L) (hf : Fr Q w w') (hb : ¬ Q rb) (hq : ∀ k cur, Q k → w.heap[k]? ≠ some (.cells cur 3 (0, 0))) : Rg w' rb L := by
  obtain ⟨ao, cap, h1, h2⟩ := h
  refine ⟨ao, cap, h1.fr hf hb, own_fr h2 hf (fun k hk hQ => ?_)⟩
  rcases h2.2 with ⟨e, -⟩ | ⟨g, c, cur, e, -, hg, -⟩
  · rw [e] at hk; simp [Value.ownBlock] at hk
  · rw [e] at hk
    simp only [Value.ownBlock, Option.some.injEq] at hk
    subst hk
    exact hq _ _ hQ hg
theorem rg_fin {w0 W : World} {rb n cap : Nat} {ao : Option Addr} {L L' : List Int} (h : Rg w0 rb L) (hb : Below w0.heap.size w0 W) (ho : W.ownsRow 0 3 1 (.slice ao n cap) n (Iv L')) (hn : L'.length = n) :
    (∃ v, W.cell? ⟨rb, 0, none⟩ = some v) ∧ W.frozen? ⟨rb, 0, none⟩ = false ∧ Rg (W.setCell ⟨rb, 0, none⟩ (.slice ao n cap)) rb L' ∧ Fr (fun q => q = rb) w0 (W.setCell ⟨rb, 0, none⟩ (.slice ao n cap)) := by
  obtain ⟨a1, c1, h1, h2⟩ := h
  have b1 := h1.bel hb
  have f1 := b1.frset 0 (.slice ao n cap)
  refine ⟨⟨_, b1.cell 0 _ rfl⟩, b1.frozen 0, ⟨ao, cap, ?_, ?_⟩, (Fr.ofBelow hb).trans f1 (fun i hi => .inl hi)⟩
  · rw [hn]; exact b1.set 0 _
  · rw [hn]
    exact own_fr ho f1 (fun q hq e => by subst e; exact own_ne ho b1 hq (by decide) rfl)

theorem rget_out {w : World} {rb : Nat} {L : List Int} (h : Rg w rb L) (i : Int) (hi : i < 0 ∨ (L.length : Int) ≤ i) : Calls Try.prog 19 #[.pointer (some ⟨rb, 0, none⟩), .int .i64 i] w fun e w' => e = .returned (.tuple #[.int .i64 0, .bool false]) ∧ w' = w := by
  obtain ⟨ao, cap, h1, h2⟩ := h
  have c0 : w.cell? ⟨rb, 0, none⟩ = some (.slice ao L.length cap) := h1.cell 0 _ rfl
  clear h1 h2
  by_cases h0 : i < 0
  · clear hi
    go_enter Try.func19, Try.ntmps19
    go_wp2
    go_ret2
    exact ⟨rfl, rfl⟩
  · have h1 : (L.length : Int) ≤ i := by omega
    clear hi
    go_enter Try.func19, Try.ntmps19
    go_wp2
    go_ret2
    exact ⟨rfl, rfl⟩
theorem rget_in {w : World} {rb : Nat} {L : List Int} (h : Rg w rb L) (k : Nat) (x : Int) (hx : L[k]? = some x) : Calls Try.prog 19 #[.pointer (some ⟨rb, 0, none⟩), .int .i64 (k : Int)] w fun e w' => e = .returned (.tuple #[.int .i64 x, .bool true]) ∧ w' = w := by
  obtain ⟨ao, cap, h1, h2⟩ := h
  have hk := lt_of hx
  have c0 : w.cell? ⟨rb, 0, none⟩ = some (.slice ao L.length cap) := h1.cell 0 _ rfl
  obtain ⟨g, off, rfl, hc⟩ := (RowE.own h2).2 (by omega)
  have c1 := hc k x hx
  have hcl := own_le h2
  clear h1 h2 hc
  have h1 : (k : Int) < (L.length : Int) := by omega
  have h2 : ¬ (k : Int) < 0 := by omega
  go_enter Try.func19, Try.ntmps19
  go_wp2
  go_ret2
  exact ⟨rfl, rfl⟩

set_option maxHeartbeats 1000000 in
theorem rput_any {w : World} {rb : Nat} {L : List Int} (h : Rg w rb L) (x : Int) (hl : L.length ≤ 1000000) : Calls Try.prog 9 #[.pointer (some ⟨rb, 0, none⟩), .int .i64 x] w fun e w' => e = .returned (.tuple #[]) ∧ Rg w' rb (L ++ [x]) ∧ Fr (fun q => q = rb) w w' := by
  obtain ⟨ao, cap, h1, h2⟩ := id h
  obtain ⟨W1, hW1⟩ : ∃ W1, W1 = w.alloc (.cells #[] 3) := ⟨_, rfl⟩
  have hb1 : Below w.heap.size w W1 := by rw [hW1]; exact (Below.refl _ w).alloc (Nat.le_refl _) _
  have c0 : W1.cell? ⟨rb, 0, none⟩ = some (.slice ao L.length cap) := (h1.bel hb1).cell 0 _ rfl
  have HS1 : Hid (Src Try.prog 1 28 (.slice ao L.length cap) L.length (Iv L) W1) := mkH (RowE.src ((RowE.own h2).2.below hb1) cap)
  have HO1 : Hid (W1.ownsRow w.heap.size 3 1 (.slice (some ⟨w.heap.size, 0, none⟩) 0 0) 0 []) := mkH (by rw [hW1]; exact World.ownsRow_made w #[] 0 (Nat.le_refl _) (Nat.zero_le _) rfl)
  have hs1 : w.heap.size ≤ W1.heap.size := hb1.size
  obtain ⟨n, hn⟩ : ∃ n, n = L.length := ⟨_, rfl⟩
  have HN := mkH hn
  have HR := mkH h
  have HB1 := mkH hb1
  rw [← hn] at c0 HS1 hl
  clear h h1 h2 hb1 hn
  rw [hW1] at c0 HS1 HO1 hs1
  have HW1 := mkH hW1
  clear hW1
  go_enter Try.func9, Try.ntmps9
  go_wp2_with (at_builtin; refine (wpList_append_own_src _ rfl (.tmp 5) (.tmp 9) 28 28 rfl w.heap.size 3 _ 1 8 Try.underlying28 info_I rfl (by decide) _ 0 [] rfl HO1.out _ n (Iv L) rfl HS1.out ?h632 ?hby2 ?hbs2 ?_))
  case h632 => unfold maxLen; omega
  case hby2 => omega
  case hbs2 => exact hs1
  intro v2 w2 hown2 hgr2
  have hb2 := below_own HO1.out hgr2 (by rw [← HW1.out]; exact HB1.out) hs1
  have hown3 : w2.ownsRow w.heap.size 3 1 v2 n (Iv L) := by simpa using hown2
  obtain ⟨W3, hW3⟩ : ∃ W3, W3 = w2.alloc (.cells #[.int .i64 x] 3) := ⟨_, rfl⟩
  have hb3 : Below w2.heap.size w2 W3 := by rw [hW3]; exact (Below.refl _ w2).alloc (Nat.le_refl _) _
  have HO3 := mkH (own_below hown3 hb3)
  have HS3 : Hid (Src Try.prog 1 28 (.slice (some ⟨w2.heap.size, 0, none⟩) 1 1) 1 [.int .i64 x] W3) := mkH (by rw [hW3]; exact src_val Try.underlying28 w2 _ rfl)
  have HB3 : Hid (Below w.heap.size w W3) := mkH (hb2.trans (hb3.mono hb2.size))
  have hs3 : w.heap.size ≤ W3.heap.size := HB3.out.size
  have HV := mkH (own_form hown3)
  clear hown2 hgr2 hb2 hown3 hb3 HS1 HO1 HW1 HB1 hs1 c0
  rw [hW3] at HO3 HS3 HB3 hs3
  clear hW3
  obtain ⟨a2, c2, rfl⟩ := HV.out
  go_wp2_with (at_builtin; refine (wpList_append_own_src _ rfl (.tmp 10) (.tmp 12) 28 28 rfl w.heap.size 3 _ 1 8 Try.underlying28 info_I rfl (by decide) _ n (Iv L) rfl HO3.out _ 1 [.int .i64 x] rfl HS3.out ?h632 ?hby2 ?hbs2 ?_))
  case h632 => unfold maxLen; omega
  case hby2 => omega
  case hbs2 => exact hs3
  intro v4 w4 hown4 hgr4
  have hb4 := below_own HO3.out hgr4 HB3.out hs3
  obtain ⟨a4, c4, rfl⟩ := own_form hown4
  obtain ⟨⟨v, q1⟩, q2, q3, q4⟩ := rg_fin (L' := L ++ [x]) HR.out hb4 (by rw [Iv_append]; exact own_mono hown4 (Nat.zero_le _)) (by rw [List.length_append, List.length_singleton, ← HN.out])
  have H3 := mkH q3
  have H4 := mkH q4
  clear hown4 hgr4 hb4 q3 q4 HO3 HS3 HB3
  go_wp2
  exact bodyPost_end (results_none rfl _ _ _) rfl ⟨rfl, H3.out, H4.out⟩

theorem rtake_out {w : World} {rb : Nat} {L : List Int} (h : Rg w rb L) (i : Int) (hi : i < 0 ∨ (L.length : Int) ≤ i) : Calls Try.prog 11 #[.pointer (some ⟨rb, 0, none⟩), .int .i64 i] w fun e w' => e = .returned (.tuple #[.int .i64 0, .bool false]) ∧ w' = w := by
  have HG := mkH (rget_out h i hi)
  clear h hi
  go_enter Try.func11, Try.ntmps11
  go_wp2_with (go_at_call 19; refine HG.out.mono ?_; rintro e w1 ⟨rfl, rfl⟩)
  go_ret2
  exact ⟨rfl, rfl⟩
theorem rdouble_out {w : World} {rb : Nat} {L : List Int} (h : Rg w rb L) (i : Int) (hi : i < 0 ∨ (L.length : Int) ≤ i) : Calls Try.prog 13 #[.pointer (some ⟨rb, 0, none⟩), .int .i64 i] w fun e w' => e = .returned (.bool false) ∧ w' = w := by
  have HG := mkH (rget_out h i hi)
  clear h hi
  go_enter Try.func13, Try.ntmps13
  go_wp2_with (go_at_call 19; refine HG.out.mono ?_; rintro e w1 ⟨rfl, rfl⟩)
  go_ret
  exact ⟨rfl, rfl⟩
theorem rdouble_in {w : World} {rb : Nat} {L : List Int} (h : Rg w rb L) (k : Nat) (x : Int) (hx : L[k]? = some x) (hl : L.length ≤ 1000000) : Calls Try.prog 13 #[.pointer (some ⟨rb, 0, none⟩), .int .i64 (k : Int)] w fun e w' => e = .returned (.bool true) ∧ Rg w' rb (L ++ [x]) ∧ Fr (fun q => q = rb) w w' := by
  have HG := mkH (rget_in h k x hx)
  have HP := mkH (rput_any h x hl)
  clear h hx
  go_enter Try.func13, Try.ntmps13
  go_wp2_with (first
    | (go_at_call 19; refine HG.out.mono ?_; rintro e w1 ⟨rfl, rfl⟩)
    | (go_at_call 9; refine HP.out.mono ?_; rintro e w2 ⟨rfl, q4, q5⟩; have H4 := mkH q4; have H5 := mkH q5; clear q4 q5))
  go_ret
  exact ⟨rfl, H4.out, H5.out⟩
end Go.Proofs.Yteaempemdolcjaa.Nt
