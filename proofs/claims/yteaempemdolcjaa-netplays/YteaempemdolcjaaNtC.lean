/-
  Bags of int: Put, slices.Delete.
-/
import Derived.Test.YteaempemdolcjaaNtA
import Derived.Deep.RegionLaw
namespace Go.Proofs.Yteaempemdolcjaa.Nc
open Go.RowKit Kt Gf Nr Gk Ns Nv Ks Gv Na
set_option linter.unusedVariables false
set_option linter.unusedSimpArgs false
set_option maxRecDepth 20000

/-- What a store into a bag's block leaves of it, behind an append onto its row. -/
theorem put_fin {C : Nat → Prop} {W1 w2 : World} {b : Nat} {M : List (Int × Int)} {q : Int} {ao : Option Addr} {cap : Nat} {v2 : Value} {x : Int × Int} (W0 : World) (hB : Below W0.heap.size W0 W1) (hbx : Bx W0 b #[.slice ao M.length cap, .int .i64 q] 26) (hO : W0.ownsRow 0 55 2 (.slice ao M.length cap) M.length (Fi M)) (hC : ∀ k, (Value.slice ao M.length cap).ownBlock = some k → C k)
    (hnew : ∀ k, W0.heap.size ≤ k → C k) (hown : w2.ownsRow 0 55 2 v2 (M.length + 1) (Fi M ++ Fi [x])) (hgr : W1.grownBy w2 (Value.slice ao M.length cap).ownBlock) (hat : v2.ownBlock = (Value.slice ao M.length cap).ownBlock ∨ v2.ownBlock = some W1.heap.size) (r : Int) :
    ∃ a2 c2, v2 = .slice a2 (M.length + 1) c2 ∧ Bx w2 b #[.slice ao M.length cap, .int .i64 q] 26 ∧ Bg C ((w2.setCell ⟨b, 0, none⟩ v2).setCell ⟨b, 1, none⟩ (.int .i64 r)) b (M ++ [x]) r ∧ Fr (Ft C b W0) W0 ((w2.setCell ⟨b, 0, none⟩ v2).setCell ⟨b, 1, none⟩ (.int .i64 r)) := by
  obtain ⟨a2, c2, rfl⟩ := own_form hown
  have hbl := hbx.lt
  have hf1 : Fr (fun k => (Value.slice ao M.length cap).ownBlock = some k) W0 w2 := (Fr.ofBelow hB).trans (fr_grown hgr) (fun i hi => .inl hi)
  have hnb : ¬ (Value.slice ao M.length cap).ownBlock = some b := fun e => own_ne hO hbx e (by decide) rfl
  have b2 : Bx w2 b #[.slice ao M.length cap, .int .i64 q] 26 := hbx.fr hf1 hnb
  have hw : w2.ownsRow 0 55 2 (.slice a2 (M.length + 1) c2) (M ++ [x]).length (Fi (M ++ [x])) := by
    rw [List.length_append, List.length_singleton, show Fi (M ++ [x]) = Fi M ++ Fi [x] from Fl_append _ _]; exact hown
  have b3 := b2.set 0 (.slice a2 (M.length + 1) c2)
  have f2 := (b2.frset 0 (.slice a2 (M.length + 1) c2)).trans (b3.frset 1 (.int .i64 r)) (fun i hi => .inl hi)
  refine ⟨a2, c2, rfl, b2, ⟨a2, c2, ?_, ?_, ?_⟩, ?_⟩
  · rw [List.length_append, List.length_singleton]
    exact b3.set 1 (.int .i64 r)
  · have := own_fr hw f2 (fun k hk e => by
      subst e
      exact own_ne hw b2 hk (by decide) rfl)
    rw [List.length_append, List.length_singleton] at this ⊢
    exact this
  · rw [List.length_append, List.length_singleton]
    intro k hk
    rcases hat with e | e
    · exact hC k (e ▸ hk)
    · rw [e] at hk
      simp only [Option.some.injEq] at hk
      exact hnew k (by have := hB.size; omega)
  · refine (hf1.mono (fun k hk => ?_)).trans f2 (fun i hi => .inl (.inl hi))
    rcases hO.2 with ⟨e, -⟩ | ⟨g, c, cur, e, -, hg, -⟩
    · rw [e] at hk; simp [Value.ownBlock] at hk
    · have hk2 := hk
      rw [e] at hk2
      simp only [Value.ownBlock, Option.some.injEq] at hk2
      subst hk2
      exact .inr ⟨hC _ hk, cur, hg⟩

set_option maxHeartbeats 1000000 in
theorem put_any {C : Nat → Prop} {w : World} {b : Nat} {L : List (Int × Int)} {p : Int} (h : Bg C w b L p) (ao : Option Addr) (cap : Nat) (xs : List Int) (hx : RowE w ao xs) (hd : ∀ a, ao = some a → 0 < xs.length → a.block ≠ b ∧ ¬ C a.block) (hC : ∀ k, w.heap.size ≤ k → C k) (hl : L.length + xs.length ≤ 1000000) (hp : 0 ≤ p) (hp2 : p ≤ 1000000) (hcap : xs.length ≤ cap) (hcap2 : cap ≤ 9223372036854775807) :
    Calls Try.prog 8 #[.pointer (some ⟨b, 0, none⟩), .slice ao xs.length cap] w fun e w' => e = .returned (.tuple #[]) ∧ Bg C w' b (L ++ num p xs) (p + xs.length) ∧ Fr (Ft C b w) w w' := by
  have HB := mkH h
  have HX := mkH hx
  have HD := mkH hd
  have HC := mkH hC
  obtain ⟨n, hn⟩ : ∃ n, n = xs.length := ⟨_, rfl⟩
  have HN := mkH hn
  rw [← hn] at hl hcap ⊢
  clear h hx hd hC hn
  go_enter Try.func8, Try.ntmps8
  go_wp2_with fail
  go_loopw [10] (fun i wr => ∃ k : Nat, k ≤ n ∧ i = .int .i64 k ∧ Hid (Bg C wr b (L ++ num p (xs.take k)) (p + (k : Int))) ∧ Hid (Fr (Ft C b w) w wr)) (fun i _ => n - (intOf i).toNat)
  case atStart => exact ⟨0, Nat.zero_le _, rfl, mkH (by have := HB.out; simpa [num] using this), mkH (Fr.refl _ _)⟩
  case round =>
    obtain ⟨k, hk, rfl, HG, HF⟩ := hrel
    by_cases hlt : k < n
    · obtain ⟨x, hxk⟩ := some_of (l := xs) (i := k) (by rw [← HN.out]; exact hlt)
      have hpos : 0 < xs.length := by rw [← HN.out]; omega
      obtain ⟨bs, off, rfl, hcs⟩ := HX.out hpos
      have hcx := hcs k x hxk
      have hdb := HD.out _ rfl hpos
      have HCX : Hid (wr.cell? ⟨bs, off + k, none⟩ = some (.int .i64 x)) := mkH (by
        rw [World.cell?_of_block (w := w) (a := ⟨bs, off + k, none⟩) (HF.out.heap (World.block_lt_of_cell? w _ hcx) (fun hq => by
          rcases hq with e | ⟨e, -⟩
          · exact hdb.1 e
          · exact hdb.2 e))]
        exact hcx)
      have HS : Hid (L ++ num p (xs.take (k + 1)) = (L ++ num p (xs.take k)) ++ [(p + (k : Int), x)]) := mkH (by
        rw [List.take_add_one, hxk]
        have hmin : min k xs.length = k := by rw [← HN.out]; omega
        simp [num_snoc, List.length_take, hmin])
      have hML : (L ++ num p (xs.take k)).length ≤ 1000000 := by
        rw [List.length_append, num_len, List.length_take]; omega
      have HQ : Hid (p + ((k + 1 : Nat) : Int) = (p + (k : Int)) + 1) := mkH (by omega)
      have hq0 : 0 ≤ p + (k : Int) := by omega
      have hq1 : p + (k : Int) ≤ 2000000 := by omega
      have hwsz : w.heap.size ≤ wr.heap.size := HF.out.size
      clear hcx hcs hdb hxk hpos
      generalize L ++ num p (xs.take k) = M at *
      generalize p + (k : Int) = q at *
      obtain ⟨ao2, cap2, hbx, hown, hCk⟩ := HG.out
      have c0 : wr.cell? ⟨b, 0, none⟩ = some (.slice ao2 M.length cap2) := hbx.cell 0 _ rfl
      have c1 : wr.cell? ⟨b, 1, none⟩ = some (.int .i64 q) := hbx.cell 1 _ rfl
      have c2 := HCX.out
      have c3 : (wr.alloc (.cells #[.int .i64 q, (.int .i64 x)] 55)).cell? ⟨b, 0, none⟩ = some (.slice ao2 M.length cap2) := (hbx.alloc _).cell 0 _ rfl
      have hb1 : Below wr.heap.size wr (wr.alloc (.cells #[.int .i64 q, (.int .i64 x)] 55)).drew := ((Below.refl _ wr).alloc (Nat.le_refl _) _).drew
      have HOW : Hid ((wr.alloc (.cells #[.int .i64 q, (.int .i64 x)] 55)).drew.ownsRow 0 55 2 (.slice ao2 M.length cap2) M.length (Fi M)) := mkH (own_below hown hb1)
      have HSR : Hid (Src Try.prog 2 24 (.slice (some ⟨wr.heap.size, 0, none⟩) 1 1) 1 (Fi [(q, x)]) (wr.alloc (.cells #[.int .i64 q, (.int .i64 x)] 55)).drew) := mkH
        (RowS.src iC_len iC_one (by decide) Try.underlying24 (l := [(q, x)]) ((RowS.new iC_len wr _ 55 [(q, x)] rfl).below (Below.refl _ _).drew) 1)
      have HPF := mkH (fun w2 v2 => put_fin (C := C) (w2 := w2) (v2 := v2) (x := (q, x)) wr hb1 hbx hown hCk (fun k hk => HC.out k (by omega)))
      have HBX := mkH hbx
      clear hb1 hbx hown hCk
      go_wp2_with fail
      go_region_law (first
        | (refine atApp (.tmp 18) (.tmp 25) 24 24 ?_ ?_; rfl; refine step_append_at (by rfl) (.tmp 18) (.tmp 25) 24 24 (by rfl) 0 55 (.agg #[.int .i64 0, (.int .i64 0)]) 2 16 Try.underlying24 infoI (by rfl) (by decide) (.slice ao2 M.length cap2) M.length (Fi M) (by rfl) (by exact HOW.out) (.slice (some ⟨wr.heap.size, 0, none⟩) 1 1) 1 (Fi [(q, x)]) (by rfl) (by exact HSR.out) (by unfold maxLen; omega) (by omega) (Nat.zero_le _) ?_; intro v2 w3 hown2 hgrow2 hat2; obtain ⟨a2, k2, hv2, hbx3, hbg3, hfr3⟩ := HPF.out w3 v2 hown2 hgrow2 hat2 (q + 1); subst hv2; have e0 : w3.cell? ⟨b, 0, none⟩ = some (.slice ao2 M.length cap2) := hbx3.cell 0 _ rfl; have e1 : w3.cell? ⟨b, 1, none⟩ = some (.int .i64 q) := hbx3.cell 1 _ rfl; have e2 := hbx3.frozen 0; have e3 := hbx3.frozen 1; have HG3 := mkH hbg3; have HF3 := mkH (ftrans HF.out hfr3); clear hbx3 hbg3 hfr3 hown2 hgrow2 hat2))
      all_goals
        clear HOW HSR HPF c0 c1 c2
        go_wp2
        go_roundw
        case rel => exact ⟨k + 1, by omega, by go_num, mkH (by rw [HS.out, HQ.out]; exact HG3.out), HF3⟩
        case measure => simp [intOf]; omega
    · have hkn : k = n := by omega
      subst hkn
      have HG2 : Hid (Bg C wr b (L ++ num p xs) (p + (k : Int))) := mkH (by
        have := HG.out
        rwa [List.take_of_length_le (by rw [← HN.out]; exact Nat.le_refl _)] at this)
      clear HG
      go_wp2
      exact bodyPost_end (results_none rfl _ _ _) rfl ⟨rfl, HG2.out, HF.out⟩
theorem put_nil (w : World) (v : Value) : Calls Try.prog 8 #[.pointer none, v] w fun e w' => e = .returned (.tuple #[]) ∧ w' = w := by
  go_enter Try.func8, Try.ntmps8
  go_wp2
  exact bodyPost_ret (v := .tuple #[]) (results_none rfl _ _ _) rfl ⟨rfl, rfl⟩
end Go.Proofs.Yteaempemdolcjaa.Nc
