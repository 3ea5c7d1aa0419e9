/-
  slices.Clone of a bag's row; each and its iterator.
-/
import Derived.Test.YteaempemdolcjaaNtI
namespace Go.Proofs.Yteaempemdolcjaa.Nj
open Go.RowKit Go.Shelf Kt Gf Nr Gk Na Ni
set_option linter.unusedVariables false
set_option linter.unusedSimpArgs false
set_option maxRecDepth 20000
attribute [local go_sem] Oper.semAt_some

theorem clone_any (w : World) (ao : Option Addr) (cap : Nat) (l : List (Int × Int)) (hr : RowS 2 iC w ao l) (hl : l.length ≤ 1000000000) :
    Calls Try.prog 41 #[.slice ao l.length cap] w fun e w' => ∃ a' c', e = .returned (.slice a' l.length c') ∧ w'.ownsRow w.heap.size 55 2 (.slice a' l.length c') l.length (Fi l) ∧ Below w.heap.size w w' := by
  cases ao with
  | none =>
    have h0 : l = [] := by
      rcases Nat.eq_zero_or_pos l.length with h | h
      · exact List.eq_nil_of_length_eq_zero h
      · obtain ⟨b, off, e, _⟩ := hr h; cases e
    subst h0
    have hq := eql_nil (P := Try.prog) w 24 55 none 0 cap Try.underlying24
    simp only [Option.isNone] at hq
    go_enter Try.func41, Try.ntmps41
    go_wp2
    go_ret
    exact ⟨none, 0, rfl, by simpa [Fl] using World.ownsRow_nil w _ _ _, Below.refl _ _⟩
  | some a =>
    have hq := eql_nil (P := Try.prog) w 24 55 (some a) l.length cap Try.underlying24
    simp only [Option.isNone] at hq
    have hbz : l.length * 16 ≤ 140737488355328 := by omega
    have HS := mkH (RowS.src iC_len iC_one (by decide) Try.underlying24 (hr.below ((Below.refl w.heap.size w).alloc (Nat.le_refl _) (.cells #[] 55))) cap)
    clear hr
    go_enter Try.func41, Try.ntmps41
    go_wp2_with (at_builtin; refine (wpList_append_own_src _ rfl (.tmp 5) (.tmp 6) 24 24 rfl w.heap.size 55 _ 2 16 Try.underlying24 infoI rfl (by decide) _ 0 [] rfl (World.ownsRow_made w #[] 0 (Nat.le_refl _) (Nat.zero_le _) rfl) _ l.length (Fi l) rfl HS.out ?h632 ?hby2 ?hbs2 ?_))
    case h632 => unfold maxLen; omega
    case hby2 => omega
    case hbs2 => simp
    intro v2 w2 hown2 hgrow2
    have hbel := below_own (World.ownsRow_made (e := 55) (size := 2) w #[] 0 (Nat.le_refl _) (Nat.zero_le _) rfl) hgrow2 ((Below.refl w.heap.size w).alloc (Nat.le_refl _) (.cells #[] 55)) (by simp)
    have hown3 : w2.ownsRow w.heap.size 55 2 v2 l.length (Fi l) := by simpa using hown2
    clear hown2 hgrow2 HS
    obtain ⟨a', c', rfl⟩ := own_form hown3
    go_wp2
    go_ret
    exact ⟨a', c', rfl, hown3, hbel⟩

theorem each_any (w : World) (v : Value) (hv : ∃ a, v = .pointer a) : Calls Try.prog 30 #[v] w fun e w' => e = .returned (.func (.func 40) #[] #[.pointer (some ⟨w.heap.size, 0, none⟩)]) ∧ w' = w.alloc (.cells #[v] 23) := by
  obtain ⟨a, rfl⟩ := hv
  go_enter Try.func30, Try.ntmps30
  go_wp2
  go_ret
  exact ⟨rfl, rfl⟩

theorem grown_of_below' {w w' : World} (h : Below w.heap.size w w') : w.grownBy w' none := ⟨h.os, h.tape, h.output, h.size, fun k hk _ => h.block k hk⟩
/-- The copied things, as they are read. -/
def ItR (w : World) (m : Nat) (ao : Option Addr) (L : List (Int × Int)) : Prop := ∀ k x, L[k]? = some x → ∃ b, ao = some ⟨b, 0, none⟩ ∧ b < m ∧ w.cell? ⟨b, k * 2, none⟩ = some (.int .i64 x.1) ∧ w.cell? ⟨b, k * 2 + 1, none⟩ = some (.int .i64 x.2)
theorem itR_own {w : World} {base cap : Nat} {ao : Option Addr} {L : List (Int × Int)} (h : w.ownsRow base 55 2 (.slice ao L.length cap) L.length (Fi L)) : ItR w w.heap.size ao L := by
  intro k x hx
  have hk := lt_of hx
  obtain ⟨g, off, e, hc⟩ := RowS.own iC_len h (by omega)
  rcases h.2 with ⟨e1, e2⟩ | ⟨g', c, cur, e1, h1, h2, _⟩
  · omega
  · simp only [Value.slice.injEq] at e1
    obtain ⟨rfl, -⟩ := e1
    cases e
    have c0 := hc k x hx 0 _ rfl
    have c1 := hc k x hx 1 _ rfl
    simp only [Nat.zero_add, Nat.add_zero] at c0 c1
    exact ⟨_, rfl, block_lt h2, c0, c1⟩
theorem itR_fm {w w' : World} {m : Nat} {Q : Nat → Prop} {ao : Option Addr} {L : List (Int × Int)} (h : ItR w m ao L) (hf : Fm m Q w w') (hq : ∀ b, ao = some ⟨b, 0, none⟩ → ¬ Q b) : ItR w' m ao L := by
  intro k x hx
  obtain ⟨b, e, hb, c0, c1⟩ := h k x hx
  refine ⟨b, e, hb, ?_, ?_⟩
  · rw [World.cell?_of_block (w := w) (a := ⟨b, k * 2, none⟩) (hf.block b hb (World.block_lt_of_cell? w _ c0) (hq b e))]
    exact c0
  · rw [World.cell?_of_block (w := w) (a := ⟨b, k * 2 + 1, none⟩) (hf.block b hb (World.block_lt_of_cell? w _ c1) (hq b e))]
    exact c1
theorem zip_at {L : List (Int × Int)} {k : Nat} {x : Int × Int} (h : L[k]? = some x) : L.zipIdx[k]? = some (x, k) := by
  rw [List.getElem?_zipIdx, h]; simp
theorem at_zip {L : List (Int × Int)} {k : Nat} {y : (Int × Int) × Nat} (h : L.zipIdx[k]? = some y) : L[k]? = some y.1 ∧ y.2 = k := by
  rw [List.getElem?_zipIdx] at h
  cases hx : L[k]? with
  | none => rw [hx] at h; simp at h
  | some x =>
    rw [hx] at h
    simp at h
    subst h
    exact ⟨rfl, rfl⟩
/-- What is told: the place, and the item. -/
def arI (x : (Int × Int) × Nat) : Array Value := #[.int .i64 (x.2 : Int), .agg #[.int .i64 x.1.1, .int .i64 x.1.2]]

set_option maxRecDepth 100000 in
set_option maxHeartbeats 4000000 in
theorem each_seq (n : Nat) (hn : 1 ≤ n) (Q : Nat → Prop) (cb : Nat) {C : Nat → Prop} {w : World} {b : Nat} {L : List (Int × Int)} {p : Int} (h : Bg C w b L p) (hcb : Bx w cb #[.pointer (some ⟨b, 0, none⟩)] 23) (hQ : ∀ k, Q k → k < w.heap.size) (hl : L.length ≤ 1000000) :
    SeqZ Try.prog n 40 #[.pointer (some ⟨cb, 0, none⟩)] arI Q L.zipIdx w := fun lp J Z W hW hlp hlW hJ hZ hY h0 => by
  have hcW := hcb.bel hW
  obtain ⟨ao, cap, hbx, hown, -⟩ := h.below hW
  have c0 : W.cell? ⟨cb, 0, none⟩ = some (.pointer (some ⟨b, 0, none⟩)) := hcW.cell 0 _ rfl
  have c1 : W.cell? ⟨b, 0, none⟩ = some (.slice ao L.length cap) := hbx.cell 0 _ rfl
  have HCL := mkH (clone_any W ao cap L (RowS.own iC_len hown) (by omega))
  have hql : ∀ k, Q k → k < W.heap.size := fun k hk => Nat.lt_of_lt_of_le (hQ k hk) hW.size
  clear hcW hbx hown h hcb hQ
  refine callsIn_of_wp Try.func40 rfl trivial ?_ rfl
  simp only [Try.ntmps40, List.size_toArray, List.length_cons, List.length_nil, Nat.reduceAdd, Nat.reduceSub, Array.replicate_succ, Array.replicate_zero, List.push_toArray, List.append_toArray, List.nil_append, List.cons_append]
  gi_wp2_with fail
  refine ⟨trivial, (callsIn_wide.2 HCL.out).mono ?_⟩
  rintro e W2 ⟨a2, c2, rfl, hown2, hb2⟩
  have hm0 : W.heap.size ≤ W2.heap.size := hb2.size
  have hJ2 : J W2.heap.size 0 W2 := hJ W2.heap.size 0 W W2 none (h0 _ hm0) (grown_of_below' hb2) (fun r e => by cases e)
  have HJ2 := mkH hJ2
  have HK2 := mkH (itR_own hown2)
  have HAO : Hid (∀ q, a2 = some ⟨q, 0, none⟩ → W.heap.size ≤ q) := mkH (fun q e => by
    rcases hown2.2 with ⟨e1, e2⟩ | ⟨g', c, cur, e1, h1, h2, _⟩
    · rw [e] at e1; cases e1
    · simp only [Value.slice.injEq] at e1
      rw [e] at e1
      simp only [Option.some.injEq, Addr.mk.injEq] at e1
      omega)
  have hcc := own_le hown2
  have hcm := own_cap hown2
  have HLP := mkH hlW
  have HQL := mkH hql
  obtain ⟨N, hN⟩ : ∃ N, N = L.length := ⟨_, rfl⟩
  have HN := mkH hN
  rw [← hN] at hcc hl ⊢
  clear hown2 hb2 hJ2 c0 c1 h0 hql HCL hN
  generalize hm : W2.heap.size = m at *
  gi_wp2_with fail
  gi_loopw [13] (fun i wr => ∃ k : Nat, k ≤ N ∧ i = .int .i64 (k : Int) ∧ Hid (J m k wr) ∧ Hid (ItR wr m a2 L) ∧ m ≤ wr.heap.size) (fun i _ => N - (intOf i).toNat)
  case atStart => exact ⟨0, Nat.zero_le _, rfl, HJ2, HK2, Nat.le_of_eq hm.symm⟩
  case round =>
    obtain ⟨k, hk, rfl, HJ, HK, hmw⟩ := hrel
    clear HJ2 HK2
    rcases Nat.lt_or_ge k N with hkl | hkl
    · obtain ⟨x, hx⟩ := some_of (l := L) (i := k) (by rw [← HN.out]; exact hkl)
      obtain ⟨q, rfl, hqm, d0, d1⟩ := HK.out k x hx
      obtain ⟨x1, x2⟩ := x
      simp only at d0 d1
      -- the item's own box
      obtain ⟨W5, hW5⟩ : ∃ W5, W5 = wr.alloc (.cells #[.int .i64 x1, .int .i64 x2] 55) := ⟨_, rfl⟩
      have hb5 : Below wr.heap.size wr W5 := by rw [hW5]; exact (Below.refl _ wr).alloc (Nat.le_refl _) _
      have hJ5 : J m k W5 := hJ m k wr W5 none HJ.out (grown_of_below' hb5) (fun r e => by cases e)
      obtain ⟨fn, tmps, assign, body, hy, hR⟩ := hY m k ((x1, x2), k) W5 (by omega) (Nat.le_trans hmw hb5.size) hJ5 (zip_at hx)
      simp only [arI] at hy
      have HB5 := mkH hb5
      have HW5 := mkH hW5
      have HX := mkH hx
      clear hx hb5 hJ5 hW5
      rw [HW5.out] at hy hR
      gi_wp2
      refine hR.mono ?_
      rintro e W3 (⟨rfl, hJ3, hk3⟩ | ⟨rfl, hZ3⟩)
      · rw [← HW5.out] at hk3
        have HJ3 := mkH hJ3
        have HK3 := mkH (itR_fm (itR_fm HK.out (Fm.ofBelow (Q := fun _ => False) (HB5.out.mono hmw)) (fun _ _ h => h)) hk3 (fun b' e => fun h => by
          have := HAO.out b' e
          rcases h with h | h
          · have := HQL.out b' h; omega
          · have := HLP.out; omega))
        have hm3 : m ≤ W3.heap.size := Nat.le_trans (Nat.le_trans hmw HB5.out.size) hk3.size
        clear hJ3 hk3 hy hR d0 d1
        gi_wp2
        go_roundw
        case rel => exact ⟨k + 1, by omega, by go_num, HJ3, HK3, hm3⟩
        case measure => simp [intOf]; omega
      · have HZ3 := mkH hZ3
        clear hZ3 hy hR d0 d1
        gi_wp2
        refine bodyPost_ret (v := .tuple #[]) (results_none rfl _ _ _) rfl ?_
        exact ⟨⟨_, rfl⟩, m, hm0, .inr ⟨k + 1, by rw [List.length_zipIdx, ← HN.out]; omega, HZ3.out⟩⟩
    · obtain rfl : k = N := by omega
      gi_wp2
      refine bodyPost_end (results_none rfl _ _ _) rfl ?_
      exact ⟨⟨_, rfl⟩, m, hm0, .inl (by rw [List.length_zipIdx, ← HN.out]; exact HJ.out)⟩
end Go.Proofs.Yteaempemdolcjaa.Nj
