/-
  Bags of string: slices.Delete, Take, Double.
-/
import Derived.Test.YteaempemdolcjaaNtD
namespace Go.Proofs.Yteaempemdolcjaa.Nff
open Go.RowKit Kt Gf Nr Gk Ns Nv Ks Gv Nb Nd
set_option linter.unusedVariables false
set_option linter.unusedSimpArgs false
set_option maxRecDepth 20000

theorem run_app_in {w : World} {e g i cap m : Nat} {cur : Array Value} {news : List Value} (t : TypeId) (ht : Try.prog.underlying t = some (.slice e)) (hsz2 : (Try.prog.info? e).map (·.size) = some 2) (hg : w.heap[g]? = some (.cells cur e (0, 0))) (hcs : cur.size = cap * 2) (hroom : i + m ≤ cap) (x : Value) (hs : Src Try.prog 2 t x m news w) (ty : TypeId) :
    (Builtin.append_ #[t, t] ty #[.slice (some ⟨g, 0, none⟩) i cap, x]).run Try.prog w = .ok (.slice (some ⟨g, 0, none⟩) (i + m) cap) (w.setRow g (cur.toList.take (i * 2) ++ news ++ cur.toList.drop (i * 2 + m * 2)).toArray) := by
  obtain ⟨inf, hi, hsz⟩ : ∃ inf, Try.prog.info? e = some inf ∧ inf.size = 2 := by
    cases hq : Try.prog.info? e with
    | none => simp [hq] at hsz2
    | some inf => exact ⟨inf, rfl, by simpa [hq] using hsz2⟩
  have hl := hs.newsLen
  have hst := run_storeCells_at Try.prog g (i * 2) e news 0 cur w hg (by rw [hl, hcs]; omega) hs.one
  simp only [Nat.add_zero, hl] at hst
  have h1 := hs.len
  have h2 := hs.cells
  rcases hs.kind with ⟨e', hk⟩ | hk <;> simp [Builtin.append_, run_underlying ht, run_underlying hk, sizeOf, typeInfo, hi, hsz, h1, hroom, h2, Addr.add_lit, hst]
theorem step_app_run {P : Program} {ops : Array Oper} {o : Oper} {a : Act} {w : World} {K : Act → World → Prop} {Q : Exit → Act → World → Prop} {E : Prop}
    (hg : o.guard = none) (s x : Operand) (t tx : TypeId) (hop : o.op = Op.call { callee := Callee.builtin Builtin.append, args := #[s, x], argTypes := #[t, tx] })
    (sv xv v' : Value) (w' : World) (hs : a.eval s = sv) (hx : a.eval x = xv) (hr : (Builtin.append_ #[t, tx] o.type #[sv, xv]).run P w = .ok v' w') (hK : K (a.put o.dst v') w') :
    if Region.wanted o (yielded ops a.tmps) = true then Oper.wp P o a w K Q else E := by
  have hw : Region.wanted o (yielded ops a.tmps) = true := by simp [Region.wanted, hg]
  rw [if_pos hw]
  unfold Oper.wp
  simp [execOp, hop, resolve, invoke, builtin, hs, hx, hr, Result.andThen]
  exact hK
theorem Fi_take (l : List (Int × ByteArray)) (i : Nat) (hi : i ≤ l.length) : (Fi l).take (i * 2) = Fi (l.take i) := by
  have e : Fi l = Fi (l.take i) ++ Fi (l.drop i) := by
    show Fl iC l = Fl iC (l.take i) ++ Fl iC (l.drop i)
    rw [← Fl_append, List.take_append_drop]
  rw [e]
  exact List.take_left' (by rw [Fl_length iC_len, List.length_take]; congr 1; omega)
theorem Fi_append (a b : List (Int × ByteArray)) : Fi (a ++ b) = Fi a ++ Fi b := Fl_append _ _

set_option maxHeartbeats 1000000 in
/-- slices.Delete of one element. -/
theorem delete_any (w : World) (ao : Option Addr) (cap i : Nat) (L : List (Int × ByteArray)) (h : w.ownsRow 0 76 2 (.slice ao L.length cap) L.length (Fi L)) (hi : i < L.length) (hn : L.length ≤ 1000000) :
    Calls Try.prog 46 #[.slice ao L.length cap, .int .i64 (i : Int), .int .i64 ((i : Int) + 1)] w fun e w' => e = .returned (.slice ao (L.length - 1) cap) ∧ w'.ownsRow 0 76 2 (.slice ao (L.length - 1) cap) (L.length - 1) (Fi (L.take i ++ L.drop (i + 1))) ∧ Fr (fun q => (Value.slice ao L.length cap).ownBlock = some q) w w' := by
  obtain ⟨g, rfl⟩ := own_some h (by omega)
  obtain ⟨cur, h1, h2, h3, h4, h5, h6, h7⟩ := own_block h
  obtain ⟨n, hn'⟩ : ∃ n, n = L.length := ⟨_, rfl⟩
  have HN := mkH hn'
  rw [← hn'] at h h3 h6 h7 hi hn ⊢
  have k3 := fun W => run_lhm (P := Try.prog) W Try.underlying62 szI (some ⟨g, 0, none⟩) n cap i (i + 1) n (by omega) (by omega) h3
  have k1 := fun W => Ns.run_h (P := Try.prog) W Try.underlying62 szI (some ⟨g, 0, none⟩) n cap i (by omega)
  have k2 := fun W => Ns.run_l (P := Try.prog) W Try.underlying62 szI (some ⟨g, 0, none⟩) n cap (i + 1) (by omega)
  have hb : Below w.heap.size w (w.drewN 1) := below_drewN (Below.refl _ _) 1
  have hrs : RowS 2 iC w (some ⟨g, 0, none⟩) L := RowS.own iC_len (by rw [← hn']; exact h)
  have hsrc : Src Try.prog 2 62 (.slice (ad (some ⟨g, 0, none⟩) cap (i + 1) 2) (n - (i + 1)) (cap - (i + 1))) (n - (i + 1)) (Fi (L.drop (i + 1))) (w.drewN 1) := by
    have := RowS.src iC_len iC_one (by decide) Try.underlying62 ((RowS.drop hrs cap (i + 1) (by rw [← hn']; exact h3)).below hb) (cap - (i + 1))
    rw [List.length_drop, ← hn'] at this
    exact this
  have hap := run_app_in (w := w.drewN 1) (i := i) 62 Try.underlying62 szI h2 h5 (by omega) _ hsrc 62
  have e9 : i + (n - (i + 1)) = n - 1 := by omega
  have e8 : i * 2 + (n - (i + 1)) * 2 = (n - 1) * 2 := by omega
  rw [e9, e8] at hap
  have hti : cur.toList.take (i * 2) = Fi (L.take i) := by
    have : (cur.toList.take (n * 2)).take (i * 2) = (Fi L).take (i * 2) := by rw [h6]
    rw [List.take_take, Nat.min_eq_left (by omega), Fi_take L i (by omega)] at this
    exact this
  obtain ⟨C1, hC1⟩ : ∃ C1, (cur.toList.take (i * 2) ++ Fi (L.drop (i + 1)) ++ cur.toList.drop ((n - 1) * 2)).toArray = C1 := ⟨_, rfl⟩
  rw [hC1] at hap
  have hC1s : C1.size = cap * 2 := by
    rw [← hC1, hti]
    simp only [List.size_toArray, List.length_append, List.length_drop, Array.length_toList, h5]
    rw [show (Fi (L.take i)).length = i * 2 by rw [show Fi (L.take i) = Fl iC (L.take i) from rfl, Fl_length iC_len, List.length_take]; congr 1; omega, show (Fi (L.drop (i + 1))).length = (n - (i + 1)) * 2 by rw [show Fi (L.drop (i + 1)) = Fl iC (L.drop (i + 1)) from rfl, Fl_length iC_len, List.length_drop]; omega]
    omega
  have hg1 : ((w.drewN 1).setRow g C1).heap[g]? = some (.cells C1 76 (0, 0)) := setRow_heap (w.drewN 1) g cur C1 _ _ h2
  obtain ⟨tail, htl⟩ : ∃ tail, cur.toList.drop ((n - 1) * 2) = tail := ⟨_, rfl⟩
  have hLL : (L.take i ++ L.drop (i + 1)).length = n - 1 := by rw [List.length_append, List.length_take, List.length_drop]; omega
  have hown1 : ((w.drewN 1).setRow g C1).ownsRow 0 76 2 (.slice (some ⟨g, 0, none⟩) (n - 1) cap) (n - 1) (Fi (L.take i ++ L.drop (i + 1))) := by
    refine ⟨by rw [show Fi (L.take i ++ L.drop (i + 1)) = Fl iC (L.take i ++ L.drop (i + 1)) from rfl, Fl_length iC_len, hLL], .inr ⟨g, cap, C1, rfl, h1, hg1, by omega, h4, hC1s, ?_⟩⟩
    rw [← hC1, hti, Fi_append]
    exact List.take_left' (by rw [← Fi_append, show Fi (L.take i ++ L.drop (i + 1)) = Fl iC (L.take i ++ L.drop (i + 1)) from rfl, Fl_length iC_len, hLL])
  -- the whole old length, of which the rest is cleared
  have hown2 : ((w.drewN 1).setRow g C1).ownsRow 0 76 2 (.slice (some ⟨g, 0, none⟩) n cap) n (C1.toList.take (n * 2)) :=
    ⟨by rw [List.length_take, Array.length_toList, hC1s]; omega, .inr ⟨g, cap, C1, rfl, h1, hg1, h3, h4, hC1s, rfl⟩⟩
  have k4 := fun W => run_lh (P := Try.prog) W Try.underlying62 szI (some ⟨g, 0, none⟩) (n - 1) cap (n - 1) n (by omega) h3
  obtain ⟨w5, hcl, ho5, hf5⟩ := run_clear_own (P := Try.prog) hown2 62 Try.underlying62 (.agg #[.int .i64 0, (.string ByteArray.empty)]) 24 infoI rfl (by decide) (fun u hu => iC_one (0, ByteArray.empty) u hu) (n - 1) (by omega) (ad (some ⟨g, 0, none⟩) cap (n - 1) 2) (cap - (n - 1)) (by
    by_cases hc : n - (n - 1) = 0
    · exact .inl hc
    · exact .inr (ad_at g cap (n - 1) 2 (by omega))) (ad_some _ _ _ _) 0
  have htk : (C1.toList.take (n * 2)).take ((n - 1) * 2) = Fi (L.take i ++ L.drop (i + 1)) := by
    rw [List.take_take, Nat.min_eq_left (by omega)]
    obtain ⟨_, hr⟩ := hown1
    rcases hr with ⟨e, -⟩ | ⟨g', c', cur', e, -, hg', -, -, -, ht'⟩
    · cases e
    · simp only [Value.slice.injEq, Option.some.injEq, Addr.mk.injEq] at e
      obtain ⟨⟨rfl, -, -⟩, -, rfl⟩ := e
      rw [hg1] at hg'
      simp only [Option.some.injEq, Obj.cells.injEq, and_true, true_and] at hg'
      subst hg'
      exact ht'
  rw [htk] at ho5
  have HO5 := mkH ho5
  have HF5 : Hid (Fr (fun q => (Value.slice (some ⟨g, 0, none⟩) n cap).ownBlock = some q) w w5) := mkH ((((Fr.refl (fun q => (Value.slice (some ⟨g, 0, none⟩) n cap).ownBlock = some q) w).drewN 1).setRow (b := g) (.inl rfl) C1).trans hf5 (fun k hk => .inl (by subst hk; rfl)))
  have hne : ((i : Int) == (i : Int) + 1) = false := beq_eq_false_iff_ne.2 (by omega)
  have hc1 : (((i + 1 : Nat)) : Int) = (i : Int) + 1 := by omega
  rw [hc1] at k3 k2
  obtain ⟨aj, haj⟩ : ∃ aj, ad (some ⟨g, 0, none⟩) cap (i + 1) 2 = aj := ⟨_, rfl⟩
  obtain ⟨al, hal⟩ : ∃ al, ad (some ⟨g, 0, none⟩) cap (n - 1) 2 = al := ⟨_, rfl⟩
  obtain ⟨a3, ha3⟩ : ∃ a3, ad (some ⟨g, 0, none⟩) n i 2 = a3 := ⟨_, rfl⟩
  obtain ⟨nj, hnj⟩ : ∃ nj, n - (i + 1) = nj := ⟨_, rfl⟩
  obtain ⟨nl, hnl⟩ : ∃ nl, n - (n - 1) = nl := ⟨_, rfl⟩
  obtain ⟨m1, hm1⟩ : ∃ m1, n - 1 = m1 := ⟨_, rfl⟩
  obtain ⟨cj, hcj⟩ : ∃ cj, cap - (i + 1) = cj := ⟨_, rfl⟩
  rw [hnl] at hcl k4
  rw [hm1] at hal hcl hap k4 HO5 ⊢
  rw [haj, hnj, hcj] at k2 hap
  rw [hal] at k4 hcl
  rw [ha3] at k3
  obtain ⟨cl, hcl2⟩ : ∃ cl, cap - m1 = cl := ⟨_, rfl⟩
  rw [hcl2] at hcl k4
  clear h h2 h6 h7 hsrc hC1 hti hC1s hg1 hown1 hown2 ho5 hf5 htk hb hrs htl e9 e8 hLL haj hal ha3 hnj hnl hcj hcl2 hn' h1 h4 h5 hc1
  have hm2 : m1 < n := by omega
  clear hm1
  go_enter Try.func46, Try.ntmps46
  go_wp2_with fail
  go_region_law (refine step_app_run (by rfl) (.tmp 22) (.tmp 25) 62 62 (by rfl) _ _ _ _ (by rfl) (by rfl) hap ?_)
  go_wp2_with fail
  go_ret
  exact ⟨rfl, HO5.out, HF5.out⟩
end Go.Proofs.Yteaempemdolcjaa.Nff
