/-
  gather: what came, held by two closures; all of it; one more.
-/
import Derived.Test.YtcpmcfagibmboabGreatChB
namespace Go.Proofs.YtcpmcfagibmboabGreat.Cc
open Go.RowKit Pl Pw Pr Pf Pv Cp Ca Cb Gf Gk
open Cr hiding some_of
open Kt hiding mkH
open Kv
set_option linter.unusedVariables false
set_option linter.unusedSimpArgs false
set_option maxRecDepth 20000

abbrev fAll (n : Nat) : Value := .func (.func 55) #[] #[.pointer (some ⟨n + 2, 0, none⟩), .pointer (some ⟨n + 1, 0, none⟩)]
abbrev fAdd (n : Nat) : Value := .func (.func 56) #[] #[.pointer (some ⟨n + 2, 0, none⟩), .pointer (some ⟨n, 0, none⟩), .pointer (some ⟨n + 1, 0, none⟩)]
/-- What the closures hold: all but the last piece, and that one. -/
structure Gs (w : World) (n : Nat) (ao : Option Addr) (cap : Nat) (M : List Pc) (z : Pc) : Prop where
  b1 : Bx w n #[fAll n] 91
  b2 : Bx w (n + 1) #[.slice ao M.length cap] 49
  b3 : Bx w (n + 2) #[.int .i64 z.1, .int .i64 z.2.1, .int .i64 z.2.2] 87
  o : w.ownsRow (n + 3) 87 3 (.slice ao M.length cap) M.length (Fp M)
/-- What came. -/
def St (M : List Pc) (z : Pc) (L : List Pc) : Prop := (L = [] ∧ M = [] ∧ z = (0, 0, 0)) ∨ (L = M ++ [z] ∧ z.2.2 ≠ 0)
/-- The row's block. -/
def rb (ao : Option Addr) (k : Nat) : Prop := ∃ a, ao = some a ∧ a.block = k
theorem rb_own {ao : Option Addr} {m cap k : Nat} : (Value.slice ao m cap).ownBlock = some k ↔ rb ao k := by
  cases ao with
  | none => simp [Value.ownBlock, rb]
  | some a => simp [Value.ownBlock, rb]
theorem Gs.lt {w : World} {n : Nat} {ao : Option Addr} {cap : Nat} {M : List Pc} {z : Pc} (h : Gs w n ao cap M z) : n + 3 ≤ w.heap.size := h.b3.lt
theorem Gs.row {w : World} {n : Nat} {ao : Option Addr} {cap : Nat} {M : List Pc} {z : Pc} (h : Gs w n ao cap M z) (k : Nat) (hk : rb ao k) : n + 3 ≤ k ∧ k < w.heap.size := h.o.lt k (rb_own.2 hk)
theorem Gs.keep {w w' : World} {n : Nat} {ao : Option Addr} {cap : Nat} {M : List Pc} {z : Pc} (h : Gs w n ao cap M z) (hb : Below w.heap.size w w') : Gs w' n ao cap M z :=
  ⟨h.b1.bel hb, h.b2.bel hb, h.b3.bel hb, own_below h.o hb⟩

theorem alloc_size (w : World) (o : Obj) : (w.alloc o).heap.size = w.heap.size + 1 := by simp

set_option maxHeartbeats 10000000 in
theorem all_any (w : World) (n : Nat) (ao : Option Addr) (cap : Nat) (M : List Pc) (z : Pc) (L : List Pc) (h : Gs w n ao cap M z) (hs : St M z L) (hl : L.length ≤ 1000000) :
    Calls Tryz.prog 55 #[.pointer (some ⟨n + 2, 0, none⟩), .pointer (some ⟨n + 1, 0, none⟩)] w fun e w' => ∃ ao' cap', e = .returned (.slice ao' L.length cap') ∧ w'.ownsRow (n + 3) 87 3 (.slice ao' L.length cap') L.length (Fp L) ∧ Fr (rb ao) w w' ∧ ∀ k, rb ao' k → rb ao k ∨ w.heap.size ≤ k := by
  have c1 := h.b2.cell 0 _ rfl
  have d0 := h.b3.cell 0 _ rfl
  have d1 := h.b3.cell 1 _ rfl
  have d2 := h.b3.cell 2 _ rfl
  have HO := mkH h.o
  have hsz := h.lt
  have HG := mkH h
  clear h
  rcases hs with ⟨rfl, rfl, rfl⟩ | ⟨rfl, hz⟩
  · go_enter Tryz.func55, Tryz.ntmps55
    go_wp2
    go_ret
    exact ⟨ao, cap, rfl, HO.out, Fr.refl _ _, fun k hk => .inl hk⟩
  · have hlen : M.length ≤ 1000000 := by rw [List.length_append] at hl; omega
    clear hl
    obtain ⟨z1, z2, z3⟩ := z
    simp only at d0 d1 d2 hz
    have HO2 := mkH (own_below HO.out ((Below.refl w.heap.size w).alloc (Nat.le_refl _) (.cells #[.int .i64 z1, .int .i64 z2, .int .i64 z3] 87)))
    clear HO
    go_enter Tryz.func55, Tryz.ntmps55
    go_wp2_with (at_builtin; refine (wpList_append_own_src_at _ rfl (.tmp 7) (.tmp 9) 49 49 rfl (n + 3) 87 (.agg #[.int .i64 0, .int .i64 0, .int .i64 0]) 3 24 Tryz.underlying49 infoP rfl (by decide) _ M.length (Fp M) rfl HO2.out _ 1 (Fp [(z1, z2, z3)]) rfl ?hsrc ?h63 ?hby ?hbs ?_))
    case hsrc => exact newP w (z1, z2, z3) _
    case h63 => unfold maxLen; omega
    case hby => omega
    case hbs => simp; omega
    intro v2 w2 hown2 hgrow2 hlies
    obtain ⟨ao2, cap2, rfl⟩ := own_form hown2
    have hf : Fr (rb ao) w w2 := by
      have h1 : Fr (rb ao) w (w.alloc (.cells #[.int .i64 z1, .int .i64 z2, .int .i64 z3] 87)) := (Fr.refl _ w).alloc _
      exact h1.trans (fr_grown hgrow2) (fun i hi => .inl (rb_own.1 hi))
    have hl2 : ∀ k, rb ao2 k → rb ao k ∨ w.heap.size ≤ k := fun k hk => by
      rcases hlies with e | e
      · exact .inl (rb_own.1 (e ▸ rb_own.2 hk))
      · have h2 := rb_own (m := M.length + 1) (cap := cap2).2 hk
        rw [e] at h2
        simp only [Option.some.injEq] at h2
        exact .inr (by omega)
    have hown3 : w2.ownsRow (n + 3) 87 3 (.slice ao2 (M.length + 1) cap2) (M.length + 1) (Fp (M ++ [(z1, z2, z3)])) := by
      show w2.ownsRow _ _ _ _ _ (Fl pC (M ++ [(z1, z2, z3)]))
      rw [Fl_append]; exact hown2
    have hln : (M ++ [(z1, z2, z3)]).length = M.length + 1 := by rw [List.length_append]; rfl
    have HL := mkH hln
    clear hown2 hgrow2 hlies HO2 hln
    go_wp2
    go_ret
    exact ⟨ao2, cap2, by rw [HL.out]; rfl, by rw [HL.out]; exact hown3, hf, hl2⟩

/-- What add leaves: the state with one more; of the old blocks only the two boxes and the row's have turned. -/
def AddP (w : World) (n : Nat) (ao : Option Addr) (L : List Pc) (e : Ending) (w' : World) : Prop :=
  e = .returned (.tuple #[]) ∧ ∃ ao' cap' M' z', Gs w' n ao' cap' M' z' ∧ St M' z' L ∧ Fr (fun k => k = n + 1 ∨ k = n + 2 ∨ rb ao k) w w' ∧ ∀ k, rb ao' k → rb ao k ∨ w.heap.size ≤ k

theorem add_fin (WA w2 : World) (n : Nat) (ao ao2 : Option Addr) (cap cap2 : Nat) (M L : List Pc) (z : Pc) (x y s : Int) (hA : Gs WA n ao cap M z) (ho2 : w2.ownsRow (n + 3) 87 3 (.slice ao2 L.length cap2) L.length (Fp L)) (hf2 : Fr (rb ao) WA w2) :
    Gs ((((w2.setCell ⟨n + 1, 0, none⟩ (.slice ao2 L.length cap2)).setCell ⟨n + 2, 0, none⟩ (.int .i64 x)).setCell ⟨n + 2, 1, none⟩ (.int .i64 y)).setCell ⟨n + 2, 2, none⟩ (.int .i64 s)) n ao2 cap2 L (x, y, s) ∧
    Fr (fun k => k = n + 1 ∨ k = n + 2 ∨ rb ao k) WA ((((w2.setCell ⟨n + 1, 0, none⟩ (.slice ao2 L.length cap2)).setCell ⟨n + 2, 0, none⟩ (.int .i64 x)).setCell ⟨n + 2, 1, none⟩ (.int .i64 y)).setCell ⟨n + 2, 2, none⟩ (.int .i64 s)) := by
  have b1 := hA.b1.fr hf2 (fun hq => by have := hA.row _ hq; omega)
  have b2 := hA.b2.fr hf2 (fun hq => by have := hA.row _ hq; omega)
  have b3 := hA.b3.fr hf2 (fun hq => by have := hA.row _ hq; omega)
  have s2 := b2.set 0 (.slice ao2 L.length cap2)
  have t3 := b3.other (p := ⟨n + 1, 0, none⟩) (by simp) (.slice ao2 L.length cap2)
  have u1 := t3.set 0 (.int .i64 x)
  have u2 := u1.set 1 (.int .i64 y)
  have u3 := u2.set 2 (.int .i64 s)
  have f1 : Fr (fun k => k = n + 1 ∨ k = n + 2) w2 (w2.setCell ⟨n + 1, 0, none⟩ (.slice ao2 L.length cap2)) := (b2.frset 0 _).mono (fun k hk => .inl hk)
  have f2 := f1.trans (t3.frset 0 (.int .i64 x)) (fun i hi => .inl (.inr hi))
  have f3 := f2.trans (u1.frset 1 (.int .i64 y)) (fun i hi => .inl (.inr hi))
  have f4 := f3.trans (u2.frset 2 (.int .i64 s)) (fun i hi => .inl (.inr hi))
  refine ⟨⟨?_, ?_, u3, own_fr ho2 f4 (fun k hk hq => by have := ho2.lt k hk; omega)⟩, hf2.mono (fun k hk => .inr (.inr hk)) |>.trans f4 (fun i hi => .inl (by rcases hi with h | h; exact .inl h; exact .inr (.inl h)))⟩
  · exact (((b1.other (by simp) _).other (by simp) _).other (by simp) _).other (by simp) _
  · exact ((s2.other (by simp) _).other (by simp) _).other (by simp) _

set_option maxHeartbeats 2000000 in
theorem add_any (w : World) (n : Nat) (ao : Option Addr) (cap : Nat) (M : List Pc) (z : Pc) (L : List Pc) (h : Gs w n ao cap M z) (hs : St M z L) (hl : L.length ≤ 1000000) (x y s : Int) (hs0 : s ≠ 0) :
    Calls Tryz.prog 56 #[.agg #[.int .i64 x, .int .i64 y], .int .i64 s, .pointer (some ⟨n + 2, 0, none⟩), .pointer (some ⟨n, 0, none⟩), .pointer (some ⟨n + 1, 0, none⟩)] w (AddP w n ao (pu L (x, y) s)) := by
  have hE := fun W => eqlR x y 0 0 W
  have hA := mkH (h.keep ((Below.refl w.heap.size w).alloc (Nat.le_refl _) (.cells #[.int .i64 x, .int .i64 y] 30)))
  have HG := mkH h
  have hsz := h.lt
  have HFR : Hid (Fr (fun k => k = n + 1 ∨ k = n + 2 ∨ rb ao k) w (w.alloc (.cells #[.int .i64 x, .int .i64 y] 30))) := mkH ((Fr.refl _ w).alloc _)
  have d0 := hA.out.b3.cell 0 _ rfl
  have d1 := hA.out.b3.cell 1 _ rfl
  have d2 := hA.out.b3.cell 2 _ rfl
  have f2 := hA.out.b3.frozen 1
  have d3 := hA.out.b1.cell 0 _ rfl
  clear h
  by_cases h0 : x = 0 ∧ y = 0
  · obtain ⟨rfl, rfl⟩ := h0
    have hp : pu L (0, 0) s = L := pu_none L s
    rw [hp]
    have HS := mkH hs
    clear hs hp
    rw [show decide ((0 : Int) = 0 ∧ (0 : Int) = 0) = true from rfl] at hE
    go_enter Tryz.func56, Tryz.ntmps56
    go_wp2
    exact bodyPost_end (results_none rfl _ _ _) rfl ⟨rfl, ao, cap, M, z, hA.out, HS.out, HFR.out, fun k hk => .inl hk⟩
  · have hd : decide (x = 0 ∧ y = 0) = false := decide_eq_false h0
    rw [hd] at hE
    have hne : ((x, y) : Rg) ≠ (0, 0) := fun e => h0 ⟨congrArg Prod.fst e, congrArg Prod.snd e⟩
    clear hd h0
    by_cases hse : s = z.2.2
    · rcases hs with ⟨rfl, rfl, rfl⟩ | ⟨rfl, hz⟩
      · exact absurd hse hs0
      · have hp : pu (M ++ [z]) (x, y) s = M ++ [(z.1, y, s)] := by rw [pu_snoc _ _ _ _ hne, if_pos hse]
        rw [hp]
        subst hse
        clear hne hp
        go_enter Tryz.func56, Tryz.ntmps56
        go_wp2
        have HN : Fr (fun k => k = n + 2) (w.alloc (.cells #[.int .i64 x, .int .i64 y] 30)) ((w.alloc (.cells #[.int .i64 x, .int .i64 y] 30)).setCell ⟨n + 2, 1, none⟩ (.int .i64 y)) := hA.out.b3.frset 1 _
        have hG2 : Gs ((w.alloc (.cells #[.int .i64 x, .int .i64 y] 30)).setCell ⟨n + 2, 1, none⟩ (.int .i64 y)) n ao cap M (z.1, y, z.2.2) :=
          ⟨hA.out.b1.other (by simp) _, hA.out.b2.other (by simp) _, hA.out.b3.set 1 _, own_fr hA.out.o HN (fun k hk e => by have := hA.out.o.lt k hk; omega)⟩
        exact bodyPost_end (results_none rfl _ _ _) rfl ⟨rfl, ao, cap, M, (z.1, y, z.2.2), hG2, .inr ⟨rfl, hz⟩, HFR.out.trans HN (fun i hi => .inl (.inr (.inl hi))), fun k hk => .inl hk⟩
    · have hp : pu L (x, y) s = L ++ [(x, y, s)] := by
        rcases hs with ⟨rfl, rfl, rfl⟩ | ⟨rfl, hz⟩
        · rw [pu_nil _ _ hne]; rfl
        · rw [pu_snoc _ _ _ _ hne, if_neg hse]
      rw [hp]
      have HALL : Hid (∀ W, Below (w.alloc (.cells #[.int .i64 x, .int .i64 y] 30)).heap.size (w.alloc (.cells #[.int .i64 x, .int .i64 y] 30)) W →
          Calls Tryz.prog 55 #[.pointer (some ⟨n + 2, 0, none⟩), .pointer (some ⟨n + 1, 0, none⟩)] W fun e w' => ∃ ao' cap', e = .returned (.slice ao' L.length cap') ∧ w'.ownsRow (n + 3) 87 3 (.slice ao' L.length cap') L.length (Fp L) ∧ Fr (rb ao) (w.alloc (.cells #[.int .i64 x, .int .i64 y] 30)) w' ∧ ∀ k, rb ao' k → rb ao k ∨ w.heap.size ≤ k) :=
        mkH (fun W hb => (all_any W n ao cap M z L (hA.out.keep hb) hs hl).mono (fun e w' ⟨ao', cap', h1, h2, h3, h4⟩ => ⟨ao', cap', h1, h2, (Fr.ofBelow hb).trans h3 (fun i hi => .inl hi), fun k hk => (h4 k hk).imp id (fun hh => by have := hb.size; simp at this; omega)⟩))
      have HP := mkH hp
      have r0 : (w.alloc (.cells #[.int .i64 x, .int .i64 y] 30)).cell? ⟨w.heap.size, 0, none⟩ = some (.int .i64 x) := (Bx.new w #[.int .i64 x, .int .i64 y] 30).cell 0 _ rfl
      have HCEL : Hid (∀ w2, Fr (rb ao) (w.alloc (.cells #[.int .i64 x, .int .i64 y] 30)) w2 →
          w2.cell? ⟨w.heap.size, 0, none⟩ = some (.int .i64 x) ∧ w2.cell? ⟨w.heap.size, 1, none⟩ = some (.int .i64 y) ∧ w2.cell? ⟨n + 1, 0, none⟩ = some (.slice ao M.length cap) ∧ w2.frozen? ⟨n + 1, 0, none⟩ = false ∧
          w2.cell? ⟨n + 2, 0, none⟩ = some (.int .i64 z.1) ∧ w2.cell? ⟨n + 2, 1, none⟩ = some (.int .i64 z.2.1) ∧ w2.cell? ⟨n + 2, 2, none⟩ = some (.int .i64 z.2.2) ∧ w2.frozen? ⟨n + 2, 0, none⟩ = false ∧ (w2.frozen? ⟨n + 2, 1, none⟩ = false ∧ w2.frozen? ⟨n + 2, 2, none⟩ = false)) := mkH (fun w2 hf => by
        have b0 : Bx w2 w.heap.size #[.int .i64 x, .int .i64 y] 30 := (Bx.new w _ _).fr hf (fun hq => by have := HG.out.row _ hq; omega)
        have b2 := hA.out.b2.fr hf (fun hq => by have := hA.out.row _ hq; omega)
        have b3 := hA.out.b3.fr hf (fun hq => by have := hA.out.row _ hq; omega)
        exact ⟨b0.cell 0 _ rfl, b0.cell 1 _ rfl, b2.cell 0 _ rfl, b2.frozen 0, b3.cell 0 _ rfl, b3.cell 1 _ rfl, b3.cell 2 _ rfl, b3.frozen 0, b3.frozen 1, b3.frozen 2⟩)
      clear hne hp hs
      go_enter Tryz.func56, Tryz.ntmps56
      go_wp2_with fail
      go_region_with (first
        | (go_at_call 55; refine (HALL.out _ (by (repeat (first | exact Below.refl _ _ | refine Below.drew ?_ | refine Gf.below_drewN ?_ _)))).mono ?_; rintro e w2 ⟨ao2, cap2, rfl, ho2, hf2, hl2⟩; obtain ⟨k0, k1, k2, k3, k4, k5, k6, k7, k8, k9⟩ := (HCEL.out w2 hf2); have HO2 := mkH ho2; have HF2 := mkH hf2; have HL2 := mkH hl2; clear ho2 hf2 hl2))
      all_goals
        obtain ⟨hG2, hF3⟩ := add_fin _ w2 n ao ao2 cap cap2 M L z x y s hA.out HO2.out HF2.out
        have HG2 := mkH hG2
        have HF3 := mkH (HFR.out.trans hF3 (fun i hi => .inl hi))
        have HS2 : Hid (St L (x, y, s) (L ++ [(x, y, s)])) := mkH (.inr ⟨rfl, hs0⟩)
        clear hG2 hF3 HO2 HF2 HALL HCEL
        go_wp2
        exact bodyPost_end (results_none rfl _ _ _) rfl ⟨rfl, ao2, cap2, L, (x, y, s), HG2.out, HS2.out, HF3.out, HL2.out⟩
end Go.Proofs.YtcpmcfagibmboabGreat.Cc
