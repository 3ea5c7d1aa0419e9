/-
  slices.Delete on a row of pointers of one's own: what is taken out, in place.
-/
import Derived.Test.YthmedpabgblddabGreatDoorSgN
namespace Go.Proofs.YthmedpabgblddabGreatDoor.So
open Go.RowKit Kt Cs Cf Cv Dk Dp Da Db Dc Dd De Sq Sr Sa Sb Sc Se Pl
set_option linter.unusedVariables false
set_option linter.unusedSimpArgs false
set_option maxRecDepth 20000

/-- Where a part begins. -/
def ad (ao : Option Addr) (m l : Nat) : Option Addr := if m = l then ao else ao.map (fun x => x.add l)
section
variable (W : World) (ao : Option Addr) (n cap : Nat)
theorem szD : (sizeOf 45).run Tryz.prog W = .ok 1 W := by
  obtain ⟨i, hi, hz, hs, hby⟩ := info_parts infoD
  simp [sizeOf, typeInfo, hi, hs]
theorem sb (k c : Nat) (h : k ≤ c) : ∀ x, (Instr.sliceBound (.int .i64 (k : Int)) c x).run Tryz.prog W = .ok k W := fun x => by simp [Instr.sliceBound, asIntOf, h]
theorem run_lh3 (l h m : Nat) (h1 : l ≤ h) (h2 : h ≤ m) (h3 : m ≤ cap) : (Instr.slice 69 (.slice ao n cap) (some (.int .i64 (l : Int))) (some (.int .i64 (h : Int))) (some (.int .i64 (m : Int)))).run Tryz.prog W = .ok (.slice (ad ao m l) (h - l) (m - l)) W := by
  simp only [Instr.slice, Sem.run_bind, run_underlying Tryz.underlying69, Instr.sliceBounds, Result.andThen_ok, sb W m cap h3, sb W h m h2, sb W l h h1, Sem.run_pure, szD, Nat.mul_one]
  rfl
theorem run_l (l : Nat) (h1 : l ≤ n) : (Instr.slice 69 (.slice ao n cap) (some (.int .i64 (l : Int))) none none).run Tryz.prog W = .ok (.slice (ad ao cap l) (n - l) (cap - l)) W := by
  simp only [Instr.slice, Sem.run_bind, run_underlying Tryz.underlying69, Instr.sliceBounds, Result.andThen_ok, sb W l n h1, Sem.run_pure, szD, Nat.mul_one]
  rfl
theorem run_lh (l h : Nat) (h1 : l ≤ h) (h2 : h ≤ cap) : (Instr.slice 69 (.slice ao n cap) (some (.int .i64 (l : Int))) (some (.int .i64 (h : Int))) none).run Tryz.prog W = .ok (.slice (ad ao cap l) (h - l) (cap - l)) W := by
  simp only [Instr.slice, Sem.run_bind, run_underlying Tryz.underlying69, Instr.sliceBounds, Result.andThen_ok, sb W h cap h2, sb W l h h1, Sem.run_pure, szD, Nat.mul_one]
  rfl
theorem run_h (g h : Nat) (h2 : h ≤ cap) : (Instr.slice 69 (.slice (some ⟨g, 0, none⟩) n cap) none (some (.int .i64 (h : Int))) none).run Tryz.prog W = .ok (.slice (some ⟨g, 0, none⟩) h cap) W := by
  simp only [Instr.slice, Sem.run_bind, run_underlying Tryz.underlying69, Instr.sliceBounds, Result.andThen_ok, sb W h cap h2, Sem.run_pure, szD, Nat.mul_one]
  have e : (if cap = 0 then some (⟨g, 0, none⟩ : Addr) else Option.map (fun x : Addr => x.add 0) (some (⟨g, 0, none⟩ : Addr))) = some (⟨g, 0, none⟩ : Addr) := by split; rfl; simp [Addr.add]
  rw [e]
  rfl
end
/-- Where a row's part lies. -/
theorem Pt_one (Ps : List Nat) : ∀ u ∈ Pt Ps, u.oneCell' = true := by
  intro u hu
  simp only [Pt, List.mem_map] at hu
  obtain ⟨D, -, rfl⟩ := hu
  rfl
theorem run_append_in (w : World) (g i cap m : Nat) (cur : Array Value) (news : List Value) (hg : w.heap[g]? = some (.cells cur 45 (0, 0))) (hcs : cur.size = cap) (hroom : i + m ≤ cap) (x : Value) (hs : Src Tryz.prog 1 69 x m news w) (ty : TypeId) :
    (Builtin.append_ #[69, 69] ty #[.slice (some ⟨g, 0, none⟩) i cap, x]).run Tryz.prog w = .ok (.slice (some ⟨g, 0, none⟩) (i + m) cap) (w.setRow g (cur.toList.take i ++ news ++ cur.toList.drop (i + m)).toArray) := by
  obtain ⟨inf, hi, hz, hsz, hby⟩ := info_parts infoD
  have hl := hs.newsLen
  rw [Nat.mul_one] at hl
  have hst := run_storeCells_at Tryz.prog g i 45 news 0 cur w hg (by rw [hl, hcs]; omega) hs.one
  simp only [Nat.add_zero, hl] at hst
  have h1 := hs.len
  have h2 := hs.cells
  rcases hs.kind with ⟨e', hk⟩ | hk <;> simp [Builtin.append_, run_underlying Tryz.underlying69, run_underlying hk, sizeOf, typeInfo, hi, hsz, h1, hroom, h2, Addr.add_lit, hst]
theorem run_clear_in (w : World) (g off n c : Nat) (a : Option Addr) (C : Array Value) (hg : w.heap[g]? = some (.cells C 45 (0, 0))) (hn : off + n ≤ C.size) (ha : n = 0 ∨ a = some ⟨g, off, none⟩) (hns : a.isSome = true) (ty : TypeId) :
    ∃ C', C'.size = C.size ∧ C'.toList.take off = C.toList.take off ∧ (Builtin.clear_ #[69] ty #[.slice a n c]).run Tryz.prog w = .ok (.tuple #[]) (w.setRow g C') := by
  obtain ⟨b, rfl⟩ := Option.isSome_iff_exists.1 hns
  by_cases h0 : n = 0
  · subst h0
    refine ⟨C, rfl, rfl, ?_⟩
    have e : w.setRow g C = w := by
      have := setRow_heap w g C C 45 (0, 0) hg
      simp only [World.setRow]
      congr 1
      apply Array.ext_getElem?
      intro k
      by_cases hk : k = g
      · subst hk
        rw [Array.getElem?_modify]
        simp [hg]
      · rw [Array.getElem?_modify]
        simp [Ne.symm hk]
    rw [e]
    simp [Builtin.clear_, run_underlying Tryz.underlying69]
  · obtain rfl : b = ⟨g, off, none⟩ := by rcases ha with h | h; exact absurd h h0; exact Option.some.inj h
    have hzv : ∀ w, (zeroValue 45).run Tryz.prog w = .ok (.pointer none) w := fun w => by
      obtain ⟨inf, hi, hz, hsz, hby⟩ := info_parts infoD
      simp [zeroValue, typeInfo, hi, hz]
    have hzc : (Builtin.zeroCells (Value.pointer none).cells n).toList = List.replicate n (Value.pointer none) := by
      show (Builtin.zeroCells #[Value.pointer none] n).toList = _
      simp [Builtin.zeroCells]
      apply List.ext_getElem
      · simp
      · intro i h1 h2
        simp [Nat.mod_one]
    have hst := run_storeCells_at Tryz.prog g off 45 (List.replicate n (.pointer none)) 0 C w hg (by simp; omega) (fun u hu => by rw [(List.mem_replicate.1 hu).2]; rfl)
    simp only [Nat.add_zero, List.length_replicate] at hst
    obtain ⟨C', hC'⟩ : ∃ C', (C.toList.take off ++ List.replicate n (Value.pointer none) ++ C.toList.drop (off + n)).toArray = C' := ⟨_, rfl⟩
    rw [hC'] at hst
    refine ⟨C', by rw [← hC']; simp; omega, ?_, ?_⟩
    · rw [← hC']
      show ((C.toList.take off ++ List.replicate n (Value.pointer none)) ++ C.toList.drop (off + n)).take off = _
      rw [List.append_assoc, List.take_append_of_le_length (by simp; omega), List.take_take, Nat.min_self]
    · obtain ⟨k, rfl⟩ : ∃ k, n = k + 1 := ⟨n - 1, by omega⟩
      simp [Builtin.clear_, run_underlying Tryz.underlying69, hzv, hzc, hst]

theorem src_part {w : World} {g n cap : Nat} {Ps : List Nat} (h : w.ownsRow 0 45 1 (.slice (some ⟨g, 0, none⟩) n cap) n (Pt Ps)) (j : Nat) (hj : j ≤ n) (c : Nat) : Src Tryz.prog 1 69 (.slice (ad (some ⟨g, 0, none⟩) cap j) (n - j) c) (n - j) (Pt (Ps.drop j)) w := by
  have hpl : Ps.length = n := by have := h.1; rw [Pt_len, Nat.mul_one] at this; exact this
  rcases h.2 with ⟨e, _⟩ | ⟨g', cap', cur, e, e2, e3, e4, e5, e6, e7⟩
  · cases e
  · simp only [Value.slice.injEq, Option.some.injEq, Addr.mk.injEq] at e
    obtain ⟨⟨rfl, -, -⟩, -, rfl⟩ := e
    by_cases hc : cap = j
    · have hz : n - j = 0 := by omega
      have hd : Ps.drop j = [] := List.drop_eq_nil_of_le (by omega)
      have e : ad (some (⟨g, 0, none⟩ : Addr)) cap j = some ⟨g, 0, none⟩ := by unfold ad; rw [if_pos hc]
      rw [hz, hd, e]
      refine Src.ofSlice (size := 1) _ Tryz.underlying69 ⟨g, 0, none⟩ 0 c (Pt []) rfl (fun k x hx => ?_) (Pt_one _)
      simp [Pt] at hx
    · have e : ad (some (⟨g, 0, none⟩ : Addr)) cap j = some ⟨g, j, none⟩ := by unfold ad; rw [if_neg hc]; show some ((⟨g, 0, none⟩ : Addr).add j) = _; rw [Addr.add_lit, Nat.zero_add]
      rw [e]
      refine Src.ofSlice (size := 1) _ Tryz.underlying69 ⟨g, j, none⟩ (n - j) c (Pt (Ps.drop j)) (by rw [Pt_len, List.length_drop]; omega) (fun k x hx => ?_) (Pt_one _)
      have hx2 : (Pt Ps)[j + k]? = some x := by
        simp only [Pt, List.getElem?_map, List.getElem?_drop] at hx ⊢
        exact hx
      have := h.cells (g := g) rfl (j + k) x hx2
      rw [Addr.add_lit, Nat.zero_add] at this
      rw [Addr.add_lit]
      exact this

theorem step_app_run {P : Program} {ops : Array Oper} {o : Oper} {a : Act} {w : World} {K : Act → World → Prop} {Q : Exit → Act → World → Prop} {E : Prop}
    (hg : o.guard = none) (s x : Operand) (t tx : TypeId) (hop : o.op = Op.call { callee := Callee.builtin Builtin.append, args := #[s, x], argTypes := #[t, tx] })
    (sv xv v' : Value) (w' : World) (hs : a.eval s = sv) (hx : a.eval x = xv) (hr : (Builtin.append_ #[t, tx] o.type #[sv, xv]).run P w = .ok v' w') (hK : K (a.put o.dst v') w') :
    if Region.wanted o (yielded ops a.tmps) = true then Oper.wp P o a w K Q else E := by
  have hw : Region.wanted o (yielded ops a.tmps) = true := by simp [Region.wanted, hg]
  rw [if_pos hw]
  unfold Oper.wp
  simp [execOp, hop, resolve, invoke, builtin, hs, hx, hr, Result.andThen]
  exact hK

set_option maxHeartbeats 1000000 in
theorem delete_any (w : World) (ao : Option Addr) (n cap i j : Nat) (Ps : List Nat) (h : w.ownsRow 0 45 1 (.slice ao n cap) n (Pt Ps)) (hij : i ≤ j) (hjn : j ≤ n) (hn : n ≤ 256) :
    Calls Tryz.prog 49 #[.slice ao n cap, .int .i64 (i : Int), .int .i64 (j : Int)] w fun e w' => e = .returned (.slice ao (n - (j - i)) cap) ∧ w'.ownsRow 0 45 1 (.slice ao (n - (j - i)) cap) (n - (j - i)) (Pt (Ps.take i ++ Ps.drop j)) ∧ Fr (fun q => (Value.slice ao n cap).ownBlock = some q) w w' := by
  have hpl : Ps.length = n := by have := h.1; rw [Pt_len, Nat.mul_one] at this; exact this
  have hnc : n ≤ cap := by
    rcases h.2 with ⟨e, h0⟩ | ⟨g, c, cur, e, e2, e3, e4, e5⟩
    · omega
    · simp only [Value.slice.injEq] at e; omega
  have k3 := fun W => run_lh3 W ao n cap i j n hij hjn hnc
  obtain ⟨r3, hr3⟩ : ∃ r, Value.slice (ad ao n i) (j - i) (n - i) = r := ⟨_, rfl⟩
  rw [hr3] at k3
  by_cases he : i = j
  · subst he
    have HH := mkH h
    have e1 : n - (i - i) = n := by omega
    have e2 : Ps.take i ++ Ps.drop i = Ps := List.take_append_drop _ _
    rw [e1, e2]
    clear h hpl hr3 e1 e2
    go_enter Tryz.func49, Tryz.ntmps49
    go_wp2
    go_ret
    exact ⟨rfl, HH.out, Fr.refl _ _⟩
  · obtain ⟨g, c, cur, e, e2, e3, e4, e5, e6, e7⟩ : ∃ g c cur, Value.slice ao n cap = .slice (some ⟨g, 0, none⟩) n c ∧ 0 ≤ g ∧ w.heap[g]? = some (.cells cur 45) ∧ n ≤ c ∧ c ≤ maxLen ∧ cur.size = c * 1 ∧ cur.toList.take (n * 1) = Pt Ps := by
      rcases h.2 with ⟨_, h0⟩ | x
      · omega
      · exact x
    simp only [Value.slice.injEq] at e
    obtain ⟨rfl, -, rfl⟩ := e
    rw [Nat.mul_one] at e6 e7
    obtain ⟨L, hL⟩ : ∃ L, i + (n - j) = L := ⟨_, rfl⟩
    have hL2 : n - (j - i) = L := by omega
    have k1 := fun W => run_h W n cap g i (by omega)
    have k2 := fun W => run_l W (some ⟨g, 0, none⟩) n cap j hjn
    have hb : Below w.heap.size w (w.drewN 1) := below_drewN (Below.refl _ _) 1
    have hsrc := src_part (own_below h hb) j hjn (cap - j)
    have hap := run_append_in (w.drewN 1) g i cap (n - j) cur (Pt (Ps.drop j)) e3 e6 (by omega) _ hsrc 69
    rw [hL] at hap
    obtain ⟨C1, hC1⟩ : ∃ C1, (cur.toList.take i ++ Pt (Ps.drop j) ++ cur.toList.drop L).toArray = C1 := ⟨_, rfl⟩
    have hti : cur.toList.take i = Pt (Ps.take i) := by
      have : (cur.toList.take n).take i = (Pt Ps).take i := by rw [e7]
      rw [List.take_take, Nat.min_eq_left (by omega)] at this
      rw [this]; simp [Pt]
    have hC1s : C1.size = cap := by rw [← hC1]; simp [Pt_len]; omega
    have hC1t : C1.toList.take L = Pt (Ps.take i ++ Ps.drop j) := by
      rw [← hC1]
      simp only [hti]
      rw [show Pt (Ps.take i ++ Ps.drop j) = Pt (Ps.take i) ++ Pt (Ps.drop j) by simp [Pt]]
      exact List.take_left' (by simp [Pt_len]; omega)
    rw [hC1] at hap
    have hg1 : ((w.drewN 1).setRow g C1).heap[g]? = some (.cells C1 45 (0, 0)) := setRow_heap (w.drewN 1) g cur C1 _ _ e3
    have k4 := fun W => run_lh W (some ⟨g, 0, none⟩) L cap L n (by omega) hnc
    obtain ⟨C2, hC2s, hC2t, hcl⟩ := run_clear_in ((w.drewN 1).setRow g C1) g L (n - L) (cap - L) (ad (some ⟨g, 0, none⟩) cap L) C1 hg1 (by omega) (by
      unfold ad
      by_cases hc : cap = L
      · exact .inl (by omega)
      · right; rw [if_neg hc]; show some ((⟨g, 0, none⟩ : Addr).add L) = _; rw [Addr.add_lit, Nat.zero_add]) (by unfold ad; split <;> rfl) 0
    have hg2 : (((w.drewN 1).setRow g C1).setRow g C2).heap[g]? = some (.cells C2 45 (0, 0)) := setRow_heap _ g C1 C2 _ _ hg1
    have hfr : Fr (fun q => (Value.slice (some ⟨g, 0, none⟩) n cap).ownBlock = some q) w (((w.drewN 1).setRow g C1).setRow g C2) := (((Fr.refl (fun q => (Value.slice (some ⟨g, 0, none⟩) n cap).ownBlock = some q) w).drewN 1).setRow (b := g) (.inl rfl) C1).setRow (b := g) (.inl rfl) C2
    have hown : (((w.drewN 1).setRow g C1).setRow g C2).ownsRow 0 45 1 (.slice (some ⟨g, 0, none⟩) L cap) L (Pt (Ps.take i ++ Ps.drop j)) := by
      refine ⟨by rw [Pt_len, List.length_append, List.length_take, List.length_drop]; omega, .inr ⟨g, cap, C2, rfl, Nat.zero_le _, hg2, by omega, e5, by omega, ?_⟩⟩
      rw [Nat.mul_one, hC2t]; exact hC1t
    rw [hL2]
    have HFR := mkH hfr
    have HOWN := mkH hown
    have hij2 : ((i : Int) == (j : Int)) = false := by simp; omega
    obtain ⟨aj, haj⟩ : ∃ aj, ad (some ⟨g, 0, none⟩) cap j = aj := ⟨_, rfl⟩
    obtain ⟨al, hal⟩ : ∃ al, ad (some ⟨g, 0, none⟩) cap L = al := ⟨_, rfl⟩
    obtain ⟨nj, hnj⟩ : ∃ nj, n - j = nj := ⟨_, rfl⟩
    obtain ⟨nl, hnl⟩ : ∃ nl, n - L = nl := ⟨_, rfl⟩
    obtain ⟨cj, hcj⟩ : ∃ cj, cap - j = cj := ⟨_, rfl⟩
    obtain ⟨cl, hcl2⟩ : ∃ cl, cap - L = cl := ⟨_, rfl⟩
    rw [haj, hnj, hcj] at k2 hap
    rw [hal, hnl, hcl2] at k4 hcl
    clear h hpl hr3 e3 e7 hsrc hC1 hti hC1s hC1t hg1 hC2s hC2t hg2 hfr hown hb haj hal hnj hnl hcj hcl2 hL hL2
    go_enter Tryz.func49, Tryz.ntmps49
    go_wp2_with fail
    go_region_held3 (fun W => True) (trivial) (first
      | (refine step_app_run (by rfl) (.tmp 22) (.tmp 25) 69 69 (by rfl) _ _ _ _ (by rfl) (by rfl) hap ?_))
    go_wp2_with fail
    go_ret
    exact ⟨rfl, HOWN.out, HFR.out⟩
end Go.Proofs.YthmedpabgblddabGreatDoor.So
