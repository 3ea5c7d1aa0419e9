/-
  BallotVotes: the walk.
-/
import Derived.Test.YtaainjkhenenoabB9W
import Derived.Test.YtaainjkhenenoabB9E
import Derived.Test.YtaainjkhenenoabB9Y
namespace Go.Proofs.Ytaainjkhenenoab.Bvo
open Go.RowKit Kt Dk Bp Bm Br Bs Bg Bn Bw Be By Go.Maps
set_option linter.unusedVariables false
set_option maxRecDepth 20000

theorem mem_p3 {l m : List X} (h : l.map p3 = m.map p3) {y : X} (hy : y ∈ l) : ∃ z ∈ m, p3 z = p3 y := by
  have : p3 y ∈ m.map p3 := by rw [← h]; exact List.mem_map.2 ⟨y, hy, rfl⟩
  obtain ⟨z, hz, e⟩ := List.mem_map.1 this
  exact ⟨z, hz, e⟩
theorem p3_s {x y : X} (h : p3 x = p3 y) : x.s = y.s ∧ x.b = y.b ∧ x.v = y.v := by simpa [p3] using h
theorem votes_facts {al ys : List X} (h : ys.map p3 = (mrg al).map p3) : Srt ys ∧ (∀ y ∈ ys, (∀ x ∈ al, x.s = y.s → x.b ≤ y.b) ∧ ∃ x ∈ al, p3 x = p3 y) ∧ ∀ x ∈ al, ∃ y ∈ ys, y.s = x.s := by
  refine ⟨srt_p3 h.symm (mrg_srt al), fun y hy => ?_, fun x hx => ?_⟩
  · obtain ⟨z, hz, e⟩ := mem_p3 h hy
    obtain ⟨e1, e2, -⟩ := p3_s e
    exact ⟨fun x hx hs => by have := mrg_top hz hx (hs.trans e1.symm); omega, z, mrg_mem hz, e⟩
  · obtain ⟨z, hz, e1, -⟩ := mrg_cov hx
    obtain ⟨y, hy, e⟩ := mem_p3 h.symm hz
    exact ⟨y, hy, (p3_s e).1.trans e1⟩
/-- What few leaves. -/
theorem few_len {A l : List X} (h : A.map p3 = (l.take 40).map cutX) : A.length ≤ 40 ∧ ∀ x ∈ A, x.v.length ≤ 100 := by
  refine ⟨?_, fun x hx => ?_⟩
  · have := congrArg List.length h
    simp only [List.length_map, List.length_take] at this
    omega
  · have : p3 x ∈ (l.take 40).map cutX := by rw [← h]; exact List.mem_map.2 ⟨x, hx, rfl⟩
    obtain ⟨z, hz, e⟩ := List.mem_map.1 this
    simp only [cutX, p3, Prod.mk.injEq] at e
    rw [← e.2.2, List.length_take]
    omega
/-- Votes that Merge has handed back. -/
theorem merged_rx {B : Nat} {w : World} {ra : Option Addr} {n rc : Nat} {ys al : List X} (h : ys.map p3 = (mrg al).map p3) (hr : w.ownsRow B 27 3 (.slice ra n rc) ys.length (Fx ys)) (hv : ∀ y ∈ ys, OwnV B w y) (hw : ∀ x ∈ al, (Lit.int .i64 x.s).wf = true) : OwnX B w (.slice ra n rc) ys :=
  ⟨hr, hv, fun y hy => by
    obtain ⟨z, hz, e⟩ := mem_p3 h hy
    rw [← (p3_s e).1]
    exact hw z (mrg_mem hz)⟩
/-- Two lists, as Merge takes them. -/
theorem rl_two (w : World) (t : TypeId) (a b : Option Addr) (ca cb : Nat) (A B : List X) (hA : RX w a A) (hB : RX w b B) : RL (w.alloc (.cells #[.slice a A.length ca, .slice b B.length cb] t)) (some ⟨w.heap.size, 0, none⟩) [⟨a, A, ca⟩, ⟨b, B, cb⟩] := by
  refine ⟨RowS.new lC_len w _ _ [⟨a, A, ca⟩, ⟨b, B, cb⟩] rfl, fun x hx => ?_⟩
  simp only [List.mem_cons, List.not_mem_nil, or_false] at hx
  rcases hx with rfl | rfl
  · exact hA.below ((Below.refl _ w).alloc (Nat.le_refl _) _)
  · exact hB.below ((Below.refl _ w).alloc (Nat.le_refl _) _)
theorem flat_two (a b : Option Addr) (ca cb : Nat) (A B : List X) : flat [⟨a, A, ca⟩, ⟨b, B, cb⟩] = A ++ B := by simp [flat]

set_option maxHeartbeats 8000000 in
theorem votes_walk (w : World) (a0 a1 : Option Addr) (cap0 cap1 : Nat) (l0 l1 : List X) (h0 : RX w a0 l0) (k0 : l0.length ≤ cap0) (m0 : cap0 ≤ 9223372036854775807) (h1 : RX w a1 l1) (k1 : l1.length ≤ cap1) (m1 : cap1 ≤ 9223372036854775807) :
    Calls Try.prog 3 #[.slice a0 l0.length cap0, .slice a1 l1.length cap1] w fun e w' => e = .returned (.bool true) ∧ Below w.heap.size w w' := by
  have H1 := mkH h1
  have H0 := mkH h0
  clear h0 h1
  go_enter Try.func3, Try.ntmps3
  go_wp2_with fail
  refine (few_any w a0 cap0 l0 H0.out k0 m0).mono ?_
  rintro e w1 ⟨ra, rca, A, rfl, hpA, hoA, hbA⟩
  have HoA := mkH hoA
  have HbA := mkH hbA
  have HpA := mkH (few_len hpA)
  have hA40 : A.length ≤ 40 := (few_len hpA).1
  clear hoA hbA hpA H0
  go_wp2_with fail
  refine (few_any w1 a1 cap1 l1 (H1.out.below HbA.out) k1 m1).mono ?_
  rintro e w2 ⟨rb, rcb, B, rfl, hpB, hoB, hbB⟩
  have hs1 : w.heap.size ≤ w1.heap.size := HbA.out.size
  have HRA := mkH ((HoA.out.below hbB).rx)
  have HRB := mkH hoB.rx
  have Hb2 : Hid (Below w.heap.size w w2) := HbA.out.trans (hbB.mono hs1)
  have HpB := mkH (few_len hpB)
  have hB40 : B.length ≤ 40 := (few_len hpB).1
  have hs2 : w.heap.size ≤ w2.heap.size := Hb2.out.size
  clear hoB hbB hpB H1 HoA HbA hs1
  go_wp2_with fail
  have hrl := rl_two w2 22 ra rb rca rcb A B HRA.out HRB.out
  have hb3 : Below w2.heap.size w2 (w2.alloc (.cells #[.slice ra A.length rca, .slice rb B.length rcb] 22)) := (Below.refl _ w2).alloc (Nat.le_refl _) _
  generalize w2.alloc (.cells #[.slice ra A.length rca, .slice rb B.length rcb] 22) = w3 at *
  refine (merge_any w3 (some ⟨w2.heap.size, 0, none⟩) 2 [⟨ra, A, rca⟩, ⟨rb, B, rcb⟩] hrl (by rw [flat_two]; simp; omega) (by simp) (by simp) (by omega) (fun x hx => ?_)).mono ?_
  · rw [flat_two] at hx
    rcases List.mem_append.1 hx with hx | hx
    · have := HpA.out.2 x hx; omega
    · have := HpB.out.2 x hx; omega
  rintro e w4 ⟨la, lc, ys, rfl, hpy, hoy, hvy, hb4⟩
  rw [flat_two] at hpy
  have hs3 : w2.heap.size ≤ w3.heap.size := hb3.size
  have hwf : ∀ x ∈ A ++ B, (Lit.int .i64 x.s).wf = true := fun x hx => by
    rcases List.mem_append.1 hx with hx | hx
    · exact (HRA.out.2 x hx).2.1
    · exact (HRB.out.2 x hx).2.1
  have HY := mkH (merged_rx hpy hoy hvy hwf)
  have HF := mkH (votes_facts hpy)
  have hb24 : Below w2.heap.size w2 w4 := hb3.trans (hb4.mono hs3)
  have hyl : ys.length ≤ 80 := by
    have h1 := congrArg List.length hpy
    have h2 := mrg_len (A ++ B)
    simp only [List.length_map, List.length_append] at h1 h2
    omega
  have hs4 : w2.heap.size ≤ w4.heap.size := hb24.size
  have HRA4 := mkH (HRA.out.below hb24)
  have HRB4 := mkH (HRB.out.below hb24)
  have Hb4 : Hid (Below w.heap.size w w4) := Hb2.out.trans (hb24.mono hs2)
  have hvl : Hid (∀ y ∈ ys, y.v.length ≤ 100) := fun y hy => by
    obtain ⟨x, hx, e⟩ := (HF.out.2.1 y hy).2
    rw [← (p3_s e).2.2]
    rcases List.mem_append.1 hx with hx | hx
    · exact HpA.out.2 x hx
    · exact HpB.out.2 x hx
  clear hrl hb3 hb4 hb24 hoy hvy hwf hpy HRA HRB HpA HpB Hb2 hs3
  have hb5 : Below w4.heap.size w4 (w4.alloc (.cells #[] 27)) := (Below.refl _ w4).alloc (Nat.le_refl _) _
  have ho5 : (w4.alloc (.cells #[] 27)).ownsRow w4.heap.size 27 3 (.slice (some ⟨w4.heap.size, 0, none⟩) 0 0) 0 (Fx []) := World.ownsRow_made (e := 27) (size := 3) w4 #[] 0 (Nat.le_refl _) (Nat.zero_le _) rfl
  have HSA := mkH (RowS.src vC_len vC_one (by decide) Try.underlying22 (P := Try.prog) (HRA4.out.below hb5).1 rca)
  have HRB5 := mkH (HRB4.out.below hb5)
  have HK6 : Hid (∀ v6 w6, w6.ownsRow w4.heap.size 27 3 v6 (0 + A.length) (Fx [] ++ Fx A) → (w4.alloc (.cells #[] 27)).grownBy w6 (Value.slice (some ⟨w4.heap.size, 0, none⟩) 0 0).ownBlock →
      Below w4.heap.size w4 w6 ∧ w6.ownsRow w4.heap.size 27 3 v6 A.length (Fx A) ∧ Src Try.prog 3 22 (.slice rb B.length rcb) B.length (Fx B) w6) := fun v6 w6 h6 g6 => by
    have hb6 : Below w4.heap.size w4 w6 := below_own ho5 g6 hb5 (by simp)
    refine ⟨hb6, by simpa [Fx, Fl] using h6, ?_⟩
    exact RowS.src vC_len vC_one (by decide) Try.underlying22 (P := Try.prog) (HRB4.out.below hb6).1 rcb
  have HK7 : Hid (∀ v6 w6 v7 w7, Below w4.heap.size w4 w6 → w6.ownsRow w4.heap.size 27 3 v6 A.length (Fx A) → w7.ownsRow w4.heap.size 27 3 v7 (A.length + B.length) (Fx A ++ Fx B) → w6.grownBy w7 v6.ownBlock → ∃ ga gc D, v7 = .slice ga D.length gc ∧ D = A ++ B ∧ RX w7 ga D ∧ Below w4.heap.size w4 w7) := fun v6 w6 v7 w7 h6 o6 o7 g7 => by
    have hb7 : Below w4.heap.size w4 w7 := below_own o6 g7 h6 h6.size
    obtain ⟨ga, gc, rfl⟩ := own_form o7
    refine ⟨ga, gc, A ++ B, by rw [List.length_append], rfl, ⟨?_, fun x hx => ?_⟩, hb7⟩
    · refine RowS.own (e := 27) (base := w4.heap.size) (m := A.length + B.length) (cap := gc) vC_len ?_
      rw [Fl_append, List.length_append]
      exact o7
    · rcases List.mem_append.1 hx with hx | hx
      · exact (HRA4.out.below hb7).2 x hx
      · exact (HRB4.out.below hb7).2 x hx
  have HO5 := mkH ho5
  clear ho5
  go_wp2_with (first
    | (at_builtin; refine wpList_append_own_src _ rfl (.tmp 27) (.tmp 28) 22 22 rfl w4.heap.size 27 (.agg #[.int .i64 0, .int .i64 0, .slice none 0 0]) 3 40 Try.underlying22 infoV rfl (by decide) _ 0 (Fx []) rfl HO5.out _ A.length (Fx A) rfl HSA.out (by unfold maxLen; omega) (by omega) (by simp) ?_; intro v6 w6 ho6 hg6; obtain ⟨hb6, ho6', hs6⟩ := HK6.out v6 w6 ho6 hg6)
    | (at_builtin; refine wpList_append_own_src _ rfl (.tmp 29) (.tmp 30) 22 22 rfl w4.heap.size 27 (.agg #[.int .i64 0, .int .i64 0, .slice none 0 0]) 3 40 Try.underlying22 infoV rfl (by decide) v6 A.length (Fx A) rfl ho6' _ B.length (Fx B) rfl hs6 (by unfold maxLen; omega) (by omega) hb6.size ?_; intro v7 w7 ho7 hg7; obtain ⟨ga, gc, D, rfl, hD, hrD, hb7⟩ := HK7.out v6 w6 v7 w7 hb6 ho6' ho7 hg7; have HDD := mkH hD; have HRD := mkH hrD; have HB7 := mkH hb7; clear hD hrD hb7 ho7 hg7 ho6' hs6 ho6 hg6 hb6))
  have hDl : D.length ≤ 80 := by rw [HDD.out, List.length_append]; omega
  clear HO5 HK6 HK7 HRB5 HSA hb5 HRA4 HRB4
  have hs7 : w4.heap.size ≤ w7.heap.size := HB7.out.size
  have HRY := mkH ((HY.out.below HB7.out).rx)
  have HBW : Hid (Below w.heap.size w w7) := Hb4.out.trans (HB7.out.mono (by omega))
  rw [← HDD.out] at HF
  have hs47 : w.heap.size ≤ w7.heap.size := by omega
  clear HDD Hb4 HB7 HY
  go_loopw [34] (fun i wr => ∃ j : Nat, j ≤ ys.length ∧ i = .int .i64 (j : Int) ∧ Hid (Below w7.heap.size w7 wr)) (fun i _ => ys.length - (intOf i).toNat)
  case atStart => exact ⟨0, Nat.zero_le _, rfl, mkH (Below.refl _ _)⟩
  case round =>
    obtain ⟨j, hj, rfl, HB⟩ := hrel
    rcases Nat.lt_or_ge j ys.length with hjl | hjl
    · obtain ⟨y, hy⟩ := some_of hjl
      have hym : y ∈ ys := List.mem_of_getElem? hy
      have HFY := mkH (HF.out.2.1 y hym)
      obtain ⟨b1, o1, rfl, hok1, c0, c1, c2⟩ := RX.at (HRY.out.below HB.out) hy
      have HPV : Hid (∀ k, j = k + 1 → ∃ z, ys[k]? = some z ∧ z.s < y.s) := fun k hk => by
        obtain ⟨z, hz⟩ := some_of (show k < ys.length by omega)
        have hs := HF.out.1
        rw [Srt, List.pairwise_iff_getElem] at hs
        have h1 := hs k j (by omega) hjl (by omega)
        rw [List.getElem?_eq_getElem (by omega)] at hz hy
        cases hz
        cases hy
        exact ⟨_, List.getElem?_eq_getElem (by omega), h1⟩
      obtain ⟨vs, vb, vv, va, vc⟩ := y
      simp only at c0 c1 c2 hok1 HPV HFY
      have hb1 : Below wr.heap.size wr (wr.alloc (.cells #[.int .i64 vs, .int .i64 vb, .slice va vv.length vc] 27)) := (Below.refl _ wr).alloc (Nat.le_refl _) _
      have hs1 : (wr.alloc (.cells #[.int .i64 vs, .int .i64 vb, .slice va vv.length vc] 27)).heap.size = wr.heap.size + 1 := by simp
      have e0 : (wr.alloc (.cells #[.int .i64 vs, .int .i64 vb, .slice va vv.length vc] 27)).cell? ⟨wr.heap.size, 0, none⟩ = some (.int .i64 vs) := cell_new_at wr _ _ 0 _ rfl
      have e1 : (wr.alloc (.cells #[.int .i64 vs, .int .i64 vb, .slice va vv.length vc] 27)).cell? ⟨wr.heap.size, 1, none⟩ = some (.int .i64 vb) := cell_new_at wr _ _ 1 _ rfl
      have e2 : (wr.alloc (.cells #[.int .i64 vs, .int .i64 vb, .slice va vv.length vc] 27)).cell? ⟨wr.heap.size, 2, none⟩ = some (.slice va vv.length vc) := cell_new_at wr _ _ 2 _ rfl
      have hsw : w7.heap.size ≤ wr.heap.size := HB.out.size
      have HB1 : Hid (Below w7.heap.size w7 (wr.alloc (.cells #[.int .i64 vs, .int .i64 vb, .slice va vv.length vc] 27))) := HB.out.trans (hb1.mono hsw)
      have HR1 := mkH (hok1.1.below hb1)
      clear hok1 hy hym hb1
      go_wp2_with fail
      generalize wr.alloc (.cells #[.int .i64 vs, .int .i64 vb, .slice va vv.length vc] 27) = wv at *
      clear c0 c1 c2
      have hcase : j = 0 ∨ ∃ k z, j = k + 1 ∧ ys[k]? = some z ∧ z.s < vs := by
        rcases Nat.eq_zero_or_pos j with h | h
        · exact .inl h
        · obtain ⟨z, hz, hlt⟩ := HPV.out (j - 1) (by omega)
          exact .inr ⟨j - 1, z, by omega, hz, hlt⟩
      clear HPV
      have HBQ : Hid (∀ q, Below w7.heap.size w7 (wv.drewN q) ∧ (wv.drewN q).cell? ⟨wr.heap.size, 0, none⟩ = some (.int .i64 vs) ∧ (wv.drewN q).cell? ⟨wr.heap.size, 1, none⟩ = some (.int .i64 vb) ∧ (wv.drewN q).cell? ⟨wr.heap.size, 2, none⟩ = some (.slice va vv.length vc) ∧ Row (wv.drewN q) va vv ∧ wr.heap.size < (wv.drewN q).heap.size) := fun q => ⟨below_drewN HB1.out q, e0, e1, e2, HR1.out, by show _ < wv.heap.size; omega⟩
      rcases hcase with hj0 | ⟨k, z, hjk, hz, hlt⟩
      · have n1 : ¬ 0 < j := by omega
        have n2 : ¬ (0 : Int) < (j : Int) := by omega
        have n3 : decide (0 < j) = false := by simp; omega
        have n4 : decide ((0 : Int) < (j : Int)) = false := by simp; omega
        clear hj0
        go_quiet (fail)
        clear n1 n2 n3 n4
        obtain ⟨hbq, e0q, e1q, e2q, hrq, hsq⟩ := HBQ.out nq
        generalize wv.drewN nq = wq at *
        clear e0 e1 e2 HR1 HB1 HB HBQ
        have HBQ := mkH hbq
        have HRQ := mkH hrq
        have HCQ : Hid (∀ W, Below wq.heap.size wq W → W.cell? ⟨wr.heap.size, 0, none⟩ = some (.int .i64 vs) ∧ W.cell? ⟨wr.heap.size, 1, none⟩ = some (.int .i64 vb) ∧ W.cell? ⟨wr.heap.size, 2, none⟩ = some (.slice va vv.length vc)) := fun W hW =>
          ⟨(hW.cell (p := ⟨wr.heap.size, 0, none⟩) hsq).trans e0q, (hW.cell (p := ⟨wr.heap.size, 1, none⟩) hsq).trans e1q, (hW.cell (p := ⟨wr.heap.size, 2, none⟩) hsq).trans e2q⟩
        clear hbq hrq e0q e1q e2q
        obtain ⟨V, hV⟩ : ∃ V, wr.heap.size = V := ⟨_, rfl⟩
        rw [hV] at HCQ hsq ⊢
        clear hV hs1 hsw
        have hsq7 : w7.heap.size ≤ wq.heap.size := HBQ.out.size
        go_wp2_with fail
        go_loopw [9, 54] (fun f i wr => ∃ (k : Nat) (t : Bool), k ≤ D.length ∧ i = .int .i64 (k : Int) ∧ f = .bool t ∧ Hid (∀ x ∈ D.take k, p3 x = (vs, vb, vv) → t = true) ∧ Hid (Below wq.heap.size wq wr)) (fun _ i _ => D.length - (intOf i).toNat)
        case atStart => exact ⟨0, false, Nat.zero_le _, rfl, rfl, mkH (fun x hx => by simp at hx), mkH (Below.refl _ _)⟩
        case round =>
          obtain ⟨k, t, hk, rfl, rfl, HT, HB⟩ := hrel
          rcases Nat.lt_or_ge k D.length with hkl | hkl
          · obtain ⟨x, hx⟩ := some_of hkl
            have hxm : x ∈ D := List.mem_of_getElem? hx
            have hsr : wq.heap.size ≤ wr.heap.size := HB.out.size
            obtain ⟨b3, o3, hga, hok3, c0, c1, c2⟩ := RX.at (HRD.out.below (HBQ.out.trans (HB.out.mono hsq7))) hx
            subst hga
            have htop := HFY.out.1 x hxm
            have HTS := mkH (take_snoc hx)
            obtain ⟨xs, xb, xv, xa, xc⟩ := x
            simp only at c0 c1 c2 hok3 htop
            have hb1 : Below wr.heap.size wr (wr.alloc (.cells #[.int .i64 xs, .int .i64 xb, .slice xa xv.length xc] 27)) := (Below.refl _ wr).alloc (Nat.le_refl _) _
            have hbq1 : Below wq.heap.size wq (wr.alloc (.cells #[.int .i64 xs, .int .i64 xb, .slice xa xv.length xc] 27)) := HB.out.trans (hb1.mono hsr)
            obtain ⟨f0, f1, f2⟩ := HCQ.out _ hbq1
            have s1 := strW0 (hok3.1.below hb1) xc
            have s2 := strW0 (HRQ.out.below hbq1) vc
            have HBN := mkH hbq1
            simp only at s1
            clear hok3 hb1 hbq1 hx hxm
            have hcs : (xs = vs ∧ xb = vb ∧ xv = vv) ∨ (xs = vs ∧ xb = vb ∧ ((Kt.S xv).toList == (Kt.S vv).toList) = false ∧ ¬ xv = vv) ∨ (xs = vs ∧ xb < vb) ∨ ¬ xs = vs := by
              by_cases h1 : xs = vs
              · have := htop h1
                by_cases h2 : xb = vb
                · by_cases h3 : xv = vv
                  · exact .inl ⟨h1, h2, h3⟩
                  · refine .inr (.inl ⟨h1, h2, ?_, h3⟩)
                    rw [S_toList, S_toList]
                    simpa using h3
                · exact .inr (.inr (.inl ⟨h1, by omega⟩))
              · exact .inr (.inr (.inr h1))
            clear htop
            rcases hcs with ⟨rfl, rfl, rfl⟩ | ⟨rfl, rfl, hst, hne⟩ | ⟨rfl, hlt⟩ | hne
            · cases t <;> go_wp2 <;> refine ⟨⟨k + 1, true, by omega, by go_num, rfl, mkH (fun _ _ _ => rfl), HBN⟩, by simp [intOf]; omega⟩
            · have HN := mkH hne
              clear hne
              cases t <;> go_wp2 <;> refine ⟨⟨k + 1, _, by omega, by go_num, rfl, mkH (fun x hx hp => ?_), HBN⟩, by simp [intOf]; omega⟩ <;>
              · have hx2 : x ∈ D.take k ++ [_] := HTS.out ▸ hx
                rcases List.mem_append.1 hx2 with hx | hx
                · exact HT.out x hx hp
                · obtain rfl := List.mem_singleton.1 hx
                  simp only [p3, Prod.mk.injEq] at hp
                  exact absurd hp.2.2 HN.out
            · have hnb : ¬ xb = vb := by omega
              have hnc : (xb == vb) = false := by simp [hnb]
              have HN := mkH hnb
              clear hnb
              cases t <;> go_wp2 <;> refine ⟨⟨k + 1, _, by omega, by go_num, rfl, mkH (fun x hx hp => ?_), HBN⟩, by simp [intOf]; omega⟩ <;>
              · have hx2 : x ∈ D.take k ++ [_] := HTS.out ▸ hx
                rcases List.mem_append.1 hx2 with hx | hx
                · exact HT.out x hx hp
                · obtain rfl := List.mem_singleton.1 hx
                  simp only [p3, Prod.mk.injEq] at hp
                  exact absurd hp.2.1 HN.out
            · have hnc : (xs == vs) = false := by simp [hne]
              have HN := mkH hne
              clear hne
              cases t <;> go_wp2 <;> refine ⟨⟨k + 1, _, by omega, by go_num, rfl, mkH (fun x hx hp => ?_), HBN⟩, by simp [intOf]; omega⟩ <;>
              · have hx2 : x ∈ D.take k ++ [_] := HTS.out ▸ hx
                rcases List.mem_append.1 hx2 with hx | hx
                · exact HT.out x hx hp
                · obtain rfl := List.mem_singleton.1 hx
                  simp only [p3, Prod.mk.injEq] at hp
                  exact absurd hp.1 HN.out
          · have hke : k = D.length := by omega
            subst hke
            rw [List.take_length] at HT
            have ht : t = true := by
              obtain ⟨x, hx, e⟩ := HFY.out.2
              exact HT.out x hx e
            subst ht
            have HBE : Hid (Below w7.heap.size w7 wr) := HBQ.out.trans (HB.out.mono hsq7)
            go_wp2
            refine ⟨⟨j + 1, by omega, by go_num, HBE⟩, by simp [intOf]; omega⟩
      · obtain ⟨b2, o2, hbo, -, d0, -, -⟩ := RX.at (HRY.out.below HB1.out) hz
        simp only [Option.some.injEq, Addr.mk.injEq] at hbo
        obtain ⟨rfl, rfl, -⟩ := hbo
        obtain ⟨zs, zb, zv, za, zc⟩ := z
        simp only at d0 hlt
        have hkk : (j : Int) - 1 = (k : Int) := by omega
        have hkl : k < ys.length := by omega
        have hnle : ¬ vs ≤ zs := by omega
        have hj0 : 0 < j := by omega
        have hd : decide (0 < (j : Int)) = true := by simp; omega
        have HJK := mkH hjk
        clear hz hjk
        go_quiet (fail)
        clear hkk hkl hnle hj0 hd d0 hlt
        obtain ⟨hbq, e0q, e1q, e2q, hrq, hsq⟩ := HBQ.out nq
        generalize wv.drewN nq = wq at *
        clear e0 e1 e2 HR1 HB1 HB HBQ
        have HBQ := mkH hbq
        have HRQ := mkH hrq
        have HCQ : Hid (∀ W, Below wq.heap.size wq W → W.cell? ⟨wr.heap.size, 0, none⟩ = some (.int .i64 vs) ∧ W.cell? ⟨wr.heap.size, 1, none⟩ = some (.int .i64 vb) ∧ W.cell? ⟨wr.heap.size, 2, none⟩ = some (.slice va vv.length vc)) := fun W hW =>
          ⟨(hW.cell (p := ⟨wr.heap.size, 0, none⟩) hsq).trans e0q, (hW.cell (p := ⟨wr.heap.size, 1, none⟩) hsq).trans e1q, (hW.cell (p := ⟨wr.heap.size, 2, none⟩) hsq).trans e2q⟩
        clear hbq hrq e0q e1q e2q
        obtain ⟨V, hV⟩ : ∃ V, wr.heap.size = V := ⟨_, rfl⟩
        rw [hV] at HCQ hsq ⊢
        clear hV hs1 hsw
        have hsq7 : w7.heap.size ≤ wq.heap.size := HBQ.out.size
        go_wp2_with fail
        go_loopw [9, 54] (fun f i wr => ∃ (k : Nat) (t : Bool), k ≤ D.length ∧ i = .int .i64 (k : Int) ∧ f = .bool t ∧ Hid (∀ x ∈ D.take k, p3 x = (vs, vb, vv) → t = true) ∧ Hid (Below wq.heap.size wq wr)) (fun _ i _ => D.length - (intOf i).toNat)
        case atStart => exact ⟨0, false, Nat.zero_le _, rfl, rfl, mkH (fun x hx => by simp at hx), mkH (Below.refl _ _)⟩
        case round =>
          obtain ⟨k, t, hk, rfl, rfl, HT, HB⟩ := hrel
          rcases Nat.lt_or_ge k D.length with hkl | hkl
          · obtain ⟨x, hx⟩ := some_of hkl
            have hxm : x ∈ D := List.mem_of_getElem? hx
            have hsr : wq.heap.size ≤ wr.heap.size := HB.out.size
            obtain ⟨b3, o3, hga, hok3, c0, c1, c2⟩ := RX.at (HRD.out.below (HBQ.out.trans (HB.out.mono hsq7))) hx
            subst hga
            have htop := HFY.out.1 x hxm
            have HTS := mkH (take_snoc hx)
            obtain ⟨xs, xb, xv, xa, xc⟩ := x
            simp only at c0 c1 c2 hok3 htop
            have hb1 : Below wr.heap.size wr (wr.alloc (.cells #[.int .i64 xs, .int .i64 xb, .slice xa xv.length xc] 27)) := (Below.refl _ wr).alloc (Nat.le_refl _) _
            have hbq1 : Below wq.heap.size wq (wr.alloc (.cells #[.int .i64 xs, .int .i64 xb, .slice xa xv.length xc] 27)) := HB.out.trans (hb1.mono hsr)
            obtain ⟨f0, f1, f2⟩ := HCQ.out _ hbq1
            have s1 := strW0 (hok3.1.below hb1) xc
            have s2 := strW0 (HRQ.out.below hbq1) vc
            have HBN := mkH hbq1
            simp only at s1
            clear hok3 hb1 hbq1 hx hxm
            have hcs : (xs = vs ∧ xb = vb ∧ xv = vv) ∨ (xs = vs ∧ xb = vb ∧ ((Kt.S xv).toList == (Kt.S vv).toList) = false ∧ ¬ xv = vv) ∨ (xs = vs ∧ xb < vb) ∨ ¬ xs = vs := by
              by_cases h1 : xs = vs
              · have := htop h1
                by_cases h2 : xb = vb
                · by_cases h3 : xv = vv
                  · exact .inl ⟨h1, h2, h3⟩
                  · refine .inr (.inl ⟨h1, h2, ?_, h3⟩)
                    rw [S_toList, S_toList]
                    simpa using h3
                · exact .inr (.inr (.inl ⟨h1, by omega⟩))
              · exact .inr (.inr (.inr h1))
            clear htop
            rcases hcs with ⟨rfl, rfl, rfl⟩ | ⟨rfl, rfl, hst, hne⟩ | ⟨rfl, hlt⟩ | hne
            · cases t <;> go_wp2 <;> refine ⟨⟨k + 1, true, by omega, by go_num, rfl, mkH (fun _ _ _ => rfl), HBN⟩, by simp [intOf]; omega⟩
            · have HN := mkH hne
              clear hne
              cases t <;> go_wp2 <;> refine ⟨⟨k + 1, _, by omega, by go_num, rfl, mkH (fun x hx hp => ?_), HBN⟩, by simp [intOf]; omega⟩ <;>
              · have hx2 : x ∈ D.take k ++ [_] := HTS.out ▸ hx
                rcases List.mem_append.1 hx2 with hx | hx
                · exact HT.out x hx hp
                · obtain rfl := List.mem_singleton.1 hx
                  simp only [p3, Prod.mk.injEq] at hp
                  exact absurd hp.2.2 HN.out
            · have hnb : ¬ xb = vb := by omega
              have hnc : (xb == vb) = false := by simp [hnb]
              have HN := mkH hnb
              clear hnb
              cases t <;> go_wp2 <;> refine ⟨⟨k + 1, _, by omega, by go_num, rfl, mkH (fun x hx hp => ?_), HBN⟩, by simp [intOf]; omega⟩ <;>
              · have hx2 : x ∈ D.take k ++ [_] := HTS.out ▸ hx
                rcases List.mem_append.1 hx2 with hx | hx
                · exact HT.out x hx hp
                · obtain rfl := List.mem_singleton.1 hx
                  simp only [p3, Prod.mk.injEq] at hp
                  exact absurd hp.2.1 HN.out
            · have hnc : (xs == vs) = false := by simp [hne]
              have HN := mkH hne
              clear hne
              cases t <;> go_wp2 <;> refine ⟨⟨k + 1, _, by omega, by go_num, rfl, mkH (fun x hx hp => ?_), HBN⟩, by simp [intOf]; omega⟩ <;>
              · have hx2 : x ∈ D.take k ++ [_] := HTS.out ▸ hx
                rcases List.mem_append.1 hx2 with hx | hx
                · exact HT.out x hx hp
                · obtain rfl := List.mem_singleton.1 hx
                  simp only [p3, Prod.mk.injEq] at hp
                  exact absurd hp.1 HN.out
          · have hke : k = D.length := by omega
            subst hke
            rw [List.take_length] at HT
            have ht : t = true := by
              obtain ⟨x, hx, e⟩ := HFY.out.2
              exact HT.out x hx e
            subst ht
            have HBE : Hid (Below w7.heap.size w7 wr) := HBQ.out.trans (HB.out.mono hsq7)
            go_wp2
            refine ⟨⟨j + 1, by omega, by go_num, HBE⟩, by simp [intOf]; omega⟩
    · have hje : j = ys.length := by omega
      subst hje
      generalize wr = w8 at *
      go_wp2_with fail
      go_loopw [100] (fun i wr => ∃ j : Nat, j ≤ D.length ∧ i = .int .i64 (j : Int) ∧ Hid (Below w7.heap.size w7 wr)) (fun i _ => D.length - (intOf i).toNat)
      case atStart => exact ⟨0, Nat.zero_le _, rfl, HB⟩
      case round =>
        clear HB
        obtain ⟨j, hj, rfl, HB⟩ := hrel
        rcases Nat.lt_or_ge j D.length with hjl | hjl
        · obtain ⟨x, hx⟩ := some_of hjl
          have hxm : x ∈ D := List.mem_of_getElem? hx
          have HFX := mkH (HF.out.2.2 x hxm)
          obtain ⟨b1, o1, rfl, hok1, c0, c1, c2⟩ := RX.at (HRD.out.below HB.out) hx
          obtain ⟨xs, xb, xv, xa, xc⟩ := x
          simp only at c0 c1 c2 HFX
          have hb1 : Below wr.heap.size wr (wr.alloc (.cells #[.int .i64 xs, .int .i64 xb, .slice xa xv.length xc] 27)) := (Below.refl _ wr).alloc (Nat.le_refl _) _
          have e0 : (wr.alloc (.cells #[.int .i64 xs, .int .i64 xb, .slice xa xv.length xc] 27)).cell? ⟨wr.heap.size, 0, none⟩ = some (.int .i64 xs) := cell_new_at wr _ _ 0 _ rfl
          have hsw : w7.heap.size ≤ wr.heap.size := HB.out.size
          have hsq : wr.heap.size < (wr.alloc (.cells #[.int .i64 xs, .int .i64 xb, .slice xa xv.length xc] 27)).heap.size := by simp
          have HBQ : Hid (Below w7.heap.size w7 (wr.alloc (.cells #[.int .i64 xs, .int .i64 xb, .slice xa xv.length xc] 27))) := HB.out.trans (hb1.mono hsw)
          clear hok1 hx hxm hb1
          go_wp2_with fail
          generalize wr.alloc (.cells #[.int .i64 xs, .int .i64 xb, .slice xa xv.length xc] 27) = wq at *
          obtain ⟨V, hV⟩ : ∃ V, wr.heap.size = V := ⟨_, rfl⟩
          rw [hV] at e0 hsq hsw ⊢
          clear c0 c1 c2 HB hV
          have HCQ : Hid (∀ W, Below wq.heap.size wq W → W.cell? ⟨V, 0, none⟩ = some (.int .i64 xs)) := fun W hW => (hW.cell (p := ⟨V, 0, none⟩) hsq).trans e0
          have hsq7 : w7.heap.size ≤ wq.heap.size := HBQ.out.size
          clear e0 hsw
          go_loopw [14, 106] (fun f i wr => ∃ (k : Nat) (t : Bool), k ≤ ys.length ∧ i = .int .i64 (k : Int) ∧ f = .bool t ∧ Hid (∀ y ∈ ys.take k, y.s = xs → t = true) ∧ Hid (Below wq.heap.size wq wr)) (fun _ i _ => ys.length - (intOf i).toNat)
          case atStart => exact ⟨0, false, Nat.zero_le _, rfl, rfl, mkH (fun x hx => by simp at hx), mkH (Below.refl _ _)⟩
          case round =>
            obtain ⟨k, t, hk, rfl, rfl, HT, HB⟩ := hrel
            rcases Nat.lt_or_ge k ys.length with hkl | hkl
            · obtain ⟨y, hy⟩ := some_of hkl
              have hsr : wq.heap.size ≤ wr.heap.size := HB.out.size
              obtain ⟨b3, o3, hga, hok3, c0, c1, c2⟩ := RX.at (HRY.out.below (HBQ.out.trans (HB.out.mono hsq7))) hy
              subst hga
              have HTS := mkH (take_snoc hy)
              obtain ⟨vs, vb, vv, va, vc⟩ := y
              simp only at c0 c1 c2
              have hb1 : Below wr.heap.size wr (wr.alloc (.cells #[.int .i64 vs, .int .i64 vb, .slice va vv.length vc] 27)) := (Below.refl _ wr).alloc (Nat.le_refl _) _
              have hbq1 : Below wq.heap.size wq (wr.alloc (.cells #[.int .i64 vs, .int .i64 vb, .slice va vv.length vc] 27)) := HB.out.trans (hb1.mono hsr)
              have f0 := HCQ.out _ hbq1
              have HBN := mkH hbq1
              clear hok3 hb1 hbq1 hy
              by_cases hvx : vs = xs
              · subst hvx
                cases t <;> go_wp2 <;> refine ⟨⟨k + 1, true, by omega, by go_num, rfl, mkH (fun _ _ _ => rfl), HBN⟩, by simp [intOf]; omega⟩
              · have hnc : (vs == xs) = false := by simp [hvx]
                have HN := mkH hvx
                clear hvx
                cases t <;> go_wp2 <;> refine ⟨⟨k + 1, _, by omega, by go_num, rfl, mkH (fun y hy hp => ?_), HBN⟩, by simp [intOf]; omega⟩ <;>
                · have hy2 : y ∈ ys.take k ++ [_] := HTS.out ▸ hy
                  rcases List.mem_append.1 hy2 with hy | hy
                  · exact HT.out y hy hp
                  · obtain rfl := List.mem_singleton.1 hy
                    exact absurd hp HN.out
            · have hke : k = ys.length := by omega
              subst hke
              rw [List.take_length] at HT
              have ht : t = true := by
                obtain ⟨y, hy, e⟩ := HFX.out
                exact HT.out y hy e
              subst ht
              have HBE : Hid (Below w7.heap.size w7 wr) := HBQ.out.trans (HB.out.mono hsq7)
              go_wp2
              refine ⟨⟨j + 1, by omega, by go_num, HBE⟩, by simp [intOf]; omega⟩
        · have hje : j = D.length := by omega
          subst hje
          generalize wr = w9 at *
          go_wp2_with fail
          have hry9 := HRY.out.below HB.out
          have hrl := rl_two w9 22 la la lc lc ys ys hry9 hry9
          have hs9 : w7.heap.size ≤ w9.heap.size := HB.out.size
          have hbx : Below w9.heap.size w9 (w9.alloc (.cells #[.slice la ys.length lc, .slice la ys.length lc] 22)) := (Below.refl _ w9).alloc (Nat.le_refl _) _
          generalize w9.alloc (.cells #[.slice la ys.length lc, .slice la ys.length lc] 22) = w10 at *
          refine (merge_any w10 (some ⟨w9.heap.size, 0, none⟩) 2 [⟨la, ys, lc⟩, ⟨la, ys, lc⟩] hrl (by rw [flat_two]; simp; omega) (by simp) (by simp) (by omega) (fun x hx => ?_)).mono ?_
          · rw [flat_two] at hx
            rcases List.mem_append.1 hx with hx | hx <;> (have := hvl.out x hx; omega)
          rintro e w11 ⟨ma, mc, zs, rfl, hpz, hoz, hvz, hb11⟩
          rw [flat_two, mrg_twice HF.out.1] at hpz
          have hzl : zs.length = ys.length := (p3_len hpz).symm
          have hs10 : w9.heap.size ≤ w10.heap.size := hbx.size
          have hwfz : ∀ y ∈ zs, (Lit.int .i64 y.s).wf = true := fun y hy => by
            obtain ⟨z, hz, e⟩ := mem_p3 hpz hy
            rw [← (p3_s e).1]
            exact (HRY.out.2 z hz).2.1
          have HOZ : Hid (OwnX w10.heap.size w11 (.slice ma zs.length mc) zs) := ⟨hoz, hvz, hwfz⟩
          have HRZ : Hid (RX w11 ma zs) := HOZ.out.rx
          have hb911 : Below w9.heap.size w9 w11 := hbx.trans (hb11.mono hs10)
          have HB11 : Hid (Below w7.heap.size w7 w11) := HB.out.trans (hb911.mono hs9)
          have HPZ := mkH hpz.symm
          rw [hzl]
          clear hry9 hrl hbx hpz hoz hvz hb11 hwfz HOZ hb911 hzl
          go_wp2_with fail
          go_loopw [133] (fun i wr => ∃ j : Nat, j ≤ ys.length ∧ i = .int .i64 (j : Int) ∧ Hid (Below w11.heap.size w11 wr)) (fun i _ => ys.length - (intOf i).toNat)
          case atStart => exact ⟨0, Nat.zero_le _, rfl, mkH (Below.refl _ _)⟩
          case round =>
            obtain ⟨j, hj, rfl, HBZ⟩ := hrel
            have hs11 : w7.heap.size ≤ w11.heap.size := HB11.out.size
            rcases Nat.lt_or_ge j ys.length with hjl | hjl
            · obtain ⟨x, hx⟩ := some_of hjl
              obtain ⟨ya, yc, hy⟩ := p3_at HPZ.out hx
              obtain ⟨b1, o1, rfl, hok1, c0, c1, c2⟩ := RX.at (HRY.out.below (HB11.out.trans (HBZ.out.mono hs11))) hx
              obtain ⟨b2, o2, rfl, hok2, d0, d1, d2⟩ := RX.at (HRZ.out.below HBZ.out) hy
              obtain ⟨s, bl, v, xa, xc⟩ := x
              simp only at c0 c1 c2 d0 d1 d2 hok1 hok2
              have s1 := strW hok1.1 xc
              have s2 := strW hok2.1 yc
              have s3 := strW0 hok1.1 xc
              have s4 := strW0 hok2.1 yc
              simp only at s1 s2 s3 s4
              clear hok1 hok2 hx hy
              go_wp2_with fail
              go_quiet (fail)
              go_wp2
              refine ⟨⟨j + 1, by omega, by go_num, mkH (below_drewN HBZ.out _)⟩, by simp [intOf]; omega⟩
            · have hje : j = ys.length := by omega
              subst hje
              have HBF : Hid (Below w.heap.size w wr) := HBW.out.trans ((HB11.out.trans (HBZ.out.mono hs11)).mono hs47)
              go_wp2_with fail
              refine (works_any _).mono ?_
              rintro e w12 ⟨rfl, hb12⟩
              go_wp2
              go_ret
              exact ⟨rfl, HBF.out.trans (hb12.mono HBF.out.size)⟩
end Go.Proofs.Ytaainjkhenenoab.Bvo
