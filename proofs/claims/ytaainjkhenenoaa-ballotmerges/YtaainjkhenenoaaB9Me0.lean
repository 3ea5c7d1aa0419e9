/-
  BallotMerges: the walk.
-/
import Derived.Test.YtaainjkhenenoaaB9W
import Derived.Test.YtaainjkhenenoaaB9X
import Derived.Laws.BitsAllLaws
namespace Go.Proofs.Ytaainjkhenenoaa.Bme
open Go.RowKit Kt Dk Bp Bm Br Bs Bg Bn Bw Be By Bx Go.Maps
set_option linter.unusedVariables false
set_option maxRecDepth 20000

theorem mem_p3 {l m : List X} (h : l.map p3 = m.map p3) {y : X} (hy : y ∈ l) : ∃ z ∈ m, p3 z = p3 y := by
  have : p3 y ∈ m.map p3 := by rw [← h]; exact List.mem_map.2 ⟨y, hy, rfl⟩
  obtain ⟨z, hz, e⟩ := List.mem_map.1 this
  exact ⟨z, hz, e⟩
theorem p3_s {x y : X} (h : p3 x = p3 y) : x.s = y.s ∧ x.b = y.b ∧ x.v = y.v := by simpa [p3] using h
theorem few_len {A l : List X} (h : A.map p3 = (l.take 40).map cutX) : A.length ≤ 40 ∧ ∀ x ∈ A, x.v.length ≤ 100 := by
  refine ⟨?_, fun x hx => ?_⟩
  · have := congrArg List.length h
    simp only [List.length_map, List.length_take] at this
    omega
  · have : p3 x ∈ (l.take 40).map cutX := by rw [← h]; exact List.mem_map.2 ⟨x, hx, rfl⟩
    obtain ⟨z, hz, e⟩ := List.mem_map.1 this
    simp only [cutX, p3, Prod.mk.injEq] at e
    rw [← e.2.2, List.length_take]
    omega
theorem few_same {A : List X} (h : A.length ≤ 40) (hv : ∀ x ∈ A, x.v.length ≤ 100) : (A.take 40).map cutX = A.map p3 := by
  rw [List.take_of_length_le h]
  refine List.map_congr_left (fun x hx => ?_)
  simp only [cutX, p3, List.take_of_length_le (hv x hx)]
/-- Votes that Merge has handed back. -/
theorem merged_rx {B : Nat} {w : World} {ra : Option Addr} {n rc : Nat} {ys al : List X} (h : ys.map p3 = (mrg al).map p3) (hr : w.ownsRow B 38 3 (.slice ra n rc) ys.length (Fx ys)) (hv : ∀ y ∈ ys, OwnV B w y) (hw : ∀ x ∈ al, (Lit.int .i64 x.s).wf = true) : OwnX B w (.slice ra n rc) ys :=
  ⟨hr, hv, fun y hy => by
    obtain ⟨z, hz, e⟩ := mem_p3 h hy
    rw [← (p3_s e).1]
    exact hw z (mrg_mem hz)⟩
theorem OwnX.fr {B : Nat} {w w' : World} {v : Value} {ys : List X} {Q : Nat → Prop} (h : OwnX B w v ys) (hf : Fr Q w w') (h1 : ∀ k, v.ownBlock = some k → ¬ Q k) (h2 : ∀ y ∈ ys, ∀ k, (Value.slice y.a y.v.length y.c).ownBlock = some k → ¬ Q k) : OwnX B w' v ys :=
  ⟨own_fr h.row hf h1, fun y hy => own_fr (h.val y hy) hf (h2 y hy), h.wf⟩
theorem rl_three (w : World) (t : TypeId) (a b c : Option Addr) (ca cb cc : Nat) (A B C : List X) (hA : RX w a A) (hB : RX w b B) (hC : RX w c C) : RL (w.alloc (.cells #[.slice a A.length ca, .slice b B.length cb, .slice c C.length cc] t)) (some ⟨w.heap.size, 0, none⟩) [⟨a, A, ca⟩, ⟨b, B, cb⟩, ⟨c, C, cc⟩] := by
  refine ⟨RowS.new lC_len w _ _ [⟨a, A, ca⟩, ⟨b, B, cb⟩, ⟨c, C, cc⟩] rfl, fun x hx => ?_⟩
  simp only [List.mem_cons, List.not_mem_nil, or_false] at hx
  rcases hx with rfl | rfl | rfl
  · exact hA.below ((Below.refl _ w).alloc (Nat.le_refl _) _)
  · exact hB.below ((Below.refl _ w).alloc (Nat.le_refl _) _)
  · exact hC.below ((Below.refl _ w).alloc (Nat.le_refl _) _)
theorem rl_one (w : World) (t : TypeId) (a : Option Addr) (ca : Nat) (A : List X) (hA : RX w a A) : RL (w.alloc (.cells #[.slice a A.length ca] t)) (some ⟨w.heap.size, 0, none⟩) [⟨a, A, ca⟩] := by
  refine ⟨RowS.new lC_len w _ _ [⟨a, A, ca⟩] rfl, fun x hx => ?_⟩
  simp only [List.mem_cons, List.not_mem_nil, or_false] at hx
  subst hx
  exact hA.below ((Below.refl _ w).alloc (Nat.le_refl _) _)
theorem rl_none (w : World) : RL w none [] := ⟨RowS.nil _ _, fun x hx => by cases hx⟩
theorem flat_three (a b c : Option Addr) (ca cb cc : Nat) (A B C : List X) : flat [⟨a, A, ca⟩, ⟨b, B, cb⟩, ⟨c, C, cc⟩] = A ++ (B ++ C) := by simp [flat]
theorem flat_one (a : Option Addr) (ca : Nat) (A : List X) : flat [⟨a, A, ca⟩] = A := by simp [flat]

/-- A byte of such a row is written. -/
theorem own_set {w : World} {B n c : Nat} {a : Option Addr} {bs : List UInt8} (h : w.ownsRow B 5 1 (.slice a n c) n (U bs)) (g k : Nat) (z : UInt8) :
    ∃ bs' : List UInt8, bs'.length = bs.length ∧ (w.setCell ⟨g, k, none⟩ (.int .u8 (z.toNat : Int))).ownsRow B 5 1 (.slice a n c) n (U bs') := by
  by_cases hg : (Value.slice a n c).ownBlock = some g
  · rcases h.2 with ⟨e1, e2⟩ | ⟨g', cap, cur, e1, hb, hh, hn, hm, hs, ht⟩
    · rw [e1] at hg; cases hg
    · rw [e1] at hg ⊢
      simp only [Value.ownBlock, Option.some.injEq] at hg
      subst hg
      refine ⟨bs.set k z, by simp, ⟨by rw [U_length, List.length_set, ← U_length]; exact h.1, .inr ⟨g', cap, cur.setIfInBounds k (.int .u8 (z.toNat : Int)), rfl, hb, heap_setCell_same w g' k cur _ _ hh, hn, hm, by simpa using hs, ?_⟩⟩⟩
      simp only [Nat.mul_one] at ht ⊢
      rw [Array.toList_setIfInBounds, List.take_set, ht]
      simp [U, List.map_set]
  · exact ⟨bs, rfl, ownsRow_setCell_other h (fun e => hg e) _⟩
theorem xor255 (q : UInt8) : bits .xor .u8 (q.toNat : Int) 255 = ((q ^^^ 255).toNat : Int) := by
  have h := u8_xor_nat q.toNat 255 (UInt8.toNat_lt q) (by decide)
  rw [UInt8.toNat_xor]
  exact h
theorem own_le {w : World} {B e size n c : Nat} {a : Option Addr} {xs : List Value} (h : w.ownsRow B e size (.slice a n c) n xs) : n ≤ c := by
  rcases h.2 with ⟨e1, e2⟩ | ⟨g, cap, cur, e1, -, -, hn, -⟩
  · omega
  · simp only [Value.slice.injEq] at e1; omega
theorem Fr_setCell {F : Nat → Prop} {w w' : World} (h : Fr F w w') {p : Addr} (hp : F p.block) (v : Value) : Fr F w (w'.setCell p v) :=
  ⟨h.os, h.tape, h.output, by simpa using h.size, fun k hk hn => (heap_setCell_other w' p k v (fun e => hn (e ▸ hp))).trans (h.block k hk hn)⟩
/-- What is left while the values of votes are turned. -/
structure Mu (B : Nat) (w0 w : World) (v : Value) (ys : List X) : Prop where
  row : w.ownsRow B 38 3 v ys.length (Fx ys)
  val : ∀ y ∈ ys, ∃ bs : List UInt8, bs.length = y.v.length ∧ w.ownsRow B 5 1 (.slice y.a y.v.length y.c) y.v.length (U bs)
  fr : Fr (fun k => ∃ y ∈ ys, (Value.slice y.a y.v.length y.c).ownBlock = some k) w0 w
theorem Mu.set {B : Nat} {w0 w : World} {v : Value} {ys : List X} (h : Mu B w0 w v ys) {y : X} (hy : y ∈ ys) {g : Nat} (hg : (Value.slice y.a y.v.length y.c).ownBlock = some g) (k : Nat) (z : UInt8) : Mu B w0 (w.setCell ⟨g, k, none⟩ (.int .u8 (z.toNat : Int))) v ys := by
  obtain ⟨bs, hb, ho⟩ := h.val y hy
  refine ⟨ownsRow_setCell_other h.row (fun e => own_kinds ho h.row (by decide) g hg e) _, fun x hx => ?_, Fr_setCell h.fr (p := ⟨g, k, none⟩) ⟨y, hy, hg⟩ _⟩
  obtain ⟨cs, hc, hoc⟩ := h.val x hx
  obtain ⟨cs', hc', hoc'⟩ := own_set hoc g k z
  exact ⟨cs', hc'.trans hc, hoc'⟩

set_option maxHeartbeats 8000000 in
theorem merges_walk (w : World) (a0 a1 a2 : Option Addr) (cap0 cap1 cap2 : Nat) (l0 l1 l2 : List X) (h0 : RX w a0 l0) (k0 : l0.length ≤ cap0) (m0 : cap0 ≤ 9223372036854775807) (h1 : RX w a1 l1) (k1 : l1.length ≤ cap1) (m1 : cap1 ≤ 9223372036854775807) (h2 : RX w a2 l2) (k2 : l2.length ≤ cap2) (m2 : cap2 ≤ 9223372036854775807) :
    Calls Try.prog 4 #[.slice a0 l0.length cap0, .slice a1 l1.length cap1, .slice a2 l2.length cap2] w fun e w' => e = .returned (.bool true) ∧ Below w.heap.size w w' := by
  have H0 := mkH h0
  have H1 := mkH h1
  have H2 := mkH h2
  clear h0 h1 h2
  go_enter Try.func4, Try.ntmps4
  go_wp2_with fail
  refine (few_any w a0 cap0 l0 H0.out k0 m0).mono ?_
  rintro e w1 ⟨ra, rca, A, rfl, hpA, hoA, hbA⟩
  have HoA := mkH hoA
  have HbA := mkH hbA
  have HpA := mkH (few_len hpA)
  have hA40 : A.length ≤ 40 := (few_len hpA).1
  clear hoA hbA hpA H0
  go_wp2_with fail
  refine (few_any w1 a1 cap1 l1 (H1.out.below HbA.out) k1 m1).mono ?_
  rintro e w2 ⟨rb, rcb, B, rfl, hpB, hoB, hbB⟩
  have HoB := mkH hoB
  have HbB := mkH hbB
  have HpB := mkH (few_len hpB)
  have hB40 : B.length ≤ 40 := (few_len hpB).1
  have hs1 : w.heap.size ≤ w1.heap.size := HbA.out.size
  have Hb2 : Hid (Below w.heap.size w w2) := HbA.out.trans (hbB.mono hs1)
  have hs2 : w1.heap.size ≤ w2.heap.size := hbB.size
  clear hoB hbB hpB H1
  go_wp2_with fail
  refine (few_any w2 a2 cap2 l2 (H2.out.below Hb2.out) k2 m2).mono ?_
  rintro e w3 ⟨rd, rcd, C, rfl, hpC, hoC, hbC⟩
  have HpC := mkH (few_len hpC)
  have hC40 : C.length ≤ 40 := (few_len hpC).1
  have hs3 : w2.heap.size ≤ w3.heap.size := hbC.size
  have hb13 : Below w1.heap.size w1 w3 := HbB.out.trans (hbC.mono hs2)
  have HRA := mkH ((HoA.out.below hb13).rx)
  have HRB := mkH ((HoB.out.below hbC).rx)
  have HRC := mkH hoC.rx
  have HB13 := mkH hb13
  clear hoC hbC hpC H2 hb13 HoB HbB Hb2
  go_wp2_with fail
  have hrl := rl_three w3 30 ra rb rd rca rcb rcd A B C HRA.out HRB.out HRC.out
  have hb4 : Below w3.heap.size w3 (w3.alloc (.cells #[.slice ra A.length rca, .slice rb B.length rcb, .slice rd C.length rcd] 30)) := (Below.refl _ w3).alloc (Nat.le_refl _) _
  generalize w3.alloc (.cells #[.slice ra A.length rca, .slice rb B.length rcb, .slice rd C.length rcd] 30) = w4 at *
  have HVL : Hid (∀ x ∈ A ++ (B ++ C), x.v.length ≤ 1000000) := fun x hx => by
    rcases List.mem_append.1 hx with hx | hx
    · have := HpA.out.2 x hx; omega
    · rcases List.mem_append.1 hx with hx | hx
      · have := HpB.out.2 x hx; omega
      · have := HpC.out.2 x hx; omega
  have HWF : Hid (∀ x ∈ A ++ (B ++ C), (Lit.int .i64 x.s).wf = true) := fun x hx => by
    rcases List.mem_append.1 hx with hx | hx
    · exact (HRA.out.2 x hx).2.1
    · rcases List.mem_append.1 hx with hx | hx
      · exact (HRB.out.2 x hx).2.1
      · exact (HRC.out.2 x hx).2.1
  refine (merge_any w4 (some ⟨w3.heap.size, 0, none⟩) 3 [⟨ra, A, rca⟩, ⟨rb, B, rcb⟩, ⟨rd, C, rcd⟩] hrl (by rw [flat_three]; simp; omega) (by simp) (by simp) (by omega) (fun x hx => HVL.out x (by rw [flat_three] at hx; exact hx))).mono ?_
  rintro e w5 ⟨la, lc, ys, rfl, hpy, hoy, hvy, hb5⟩
  rw [flat_three] at hpy
  have hs4 : w3.heap.size ≤ w4.heap.size := hb4.size
  have hs5 : w4.heap.size ≤ w5.heap.size := hb5.size
  have hb35 : Below w3.heap.size w3 w5 := hb4.trans (hb5.mono hs4)
  have HOY := mkH (merged_rx hpy hoy hvy HWF.out)
  have HPY := mkH hpy
  have HVY : Hid (∀ y ∈ ys, y.v.length ≤ 1000000) := fun y hy => by
    obtain ⟨z, hz, e⟩ := mem_p3 hpy hy
    rw [← (p3_s e).2.2]
    exact HVL.out z (mrg_mem hz)
  have hyl : ys.length ≤ 120 := by
    have h1 := congrArg List.length hpy
    have h2 := mrg_len (A ++ (B ++ C))
    simp only [List.length_map, List.length_append] at h1 h2
    omega
  have HRA5 := mkH (HRA.out.below hb35)
  have HRB5 := mkH (HRB.out.below hb35)
  have HRC5 := mkH (HRC.out.below hb35)
  have HB15 : Hid (Below w1.heap.size w1 w5) := HB13.out.trans (hb35.mono (by omega))
  clear hrl hb4 hpy hoy hvy hb5 hb35 HRA HRB HRC HB13
  go_wp2_with fail
  -- the document's
  have hrl := rl_three w5 30 ra rb rd rca rcb rcd A B C HRA5.out HRB5.out HRC5.out
  have hb6 : Below w5.heap.size w5 (w5.alloc (.cells #[.slice ra A.length rca, .slice rb B.length rcb, .slice rd C.length rcd] 30)) := (Below.refl _ w5).alloc (Nat.le_refl _) _
  generalize w5.alloc (.cells #[.slice ra A.length rca, .slice rb B.length rcb, .slice rd C.length rcd] 30) = w6 at *
  refine (rmerge_any w6 (some ⟨w5.heap.size, 0, none⟩) 3 [⟨ra, A, rca⟩, ⟨rb, B, rcb⟩, ⟨rd, C, rcd⟩] hrl (by rw [flat_three]; simp; omega) (by simp)).mono ?_
  rintro e w7 ⟨qa, qc, rfl, hrq, hb7⟩
  rw [flat_three] at hrq ⊢
  have hs6 : w5.heap.size ≤ w6.heap.size := hb6.size
  have hb57 : Below w5.heap.size w5 w7 := hb6.trans (hb7.mono hs6)
  have hs7 : w5.heap.size ≤ w7.heap.size := hb57.size
  have HRQ := mkH hrq
  have HB57 := mkH hb57
  obtain ⟨M, hM⟩ : ∃ M, mrg (A ++ (B ++ C)) = M := ⟨_, rfl⟩
  rw [hM] at HRQ HPY ⊢
  have HML := mkH (p3_len HPY.out)
  clear hrl hb6 hb7 hb57 hrq hM
  go_wp2_with fail
  refine (same_any w7 la qa lc qc ys M ((HOY.out.below HB57.out).rx) HRQ.out (by omega) HPY.out).mono ?_
  rintro e w8 ⟨rfl, hb8⟩
  have hb58 : Below w5.heap.size w5 w8 := HB57.out.trans (hb8.mono hs7)
  have HB58 := mkH hb58
  have hs8 : w5.heap.size ≤ w8.heap.size := hb58.size
  have HRA8 := mkH (HRA5.out.below hb58)
  clear hb8 hb58 HB57 HRQ HRA5 HRB5 HRC5
  go_wp2_with fail
  have hrl := rl_one w8 30 ra rca A HRA8.out
  have hb9 : Below w8.heap.size w8 (w8.alloc (.cells #[.slice ra A.length rca] 30)) := (Below.refl _ w8).alloc (Nat.le_refl _) _
  generalize w8.alloc (.cells #[.slice ra A.length rca] 30) = w9 at *
  refine (merge_any w9 (some ⟨w8.heap.size, 0, none⟩) 1 [⟨ra, A, rca⟩] hrl (by rw [flat_one]; omega) (by simp) (by simp) (by omega) (fun x hx => HVL.out x (by rw [flat_one] at hx; exact List.mem_append.2 (.inl hx)))).mono ?_
  rintro e w10 ⟨za, zc, zs, rfl, hpz, hoz, hvz, hb10⟩
  rw [flat_one] at hpz
  have hs9 : w8.heap.size ≤ w9.heap.size := hb9.size
  have hb810 : Below w8.heap.size w8 w10 := hb9.trans (hb10.mono hs9)
  have hs10 : w8.heap.size ≤ w10.heap.size := hb810.size
  have HOZ := mkH (merged_rx hpz hoz hvz (fun x hx => HWF.out x (List.mem_append.2 (.inl hx))))
  have HPZ := mkH hpz
  have hzl : zs.length ≤ 40 := by
    have h1 := congrArg List.length hpz
    have h2 := mrg_len A
    simp only [List.length_map] at h1
    omega
  have HRA10 := mkH (HRA8.out.below hb810)
  have HB810 := mkH hb810
  clear hrl hb9 hpz hoz hvz hb10 hb810
  go_wp2_with fail
  have hrl := rl_one w10 30 ra rca A HRA10.out
  have hb11 : Below w10.heap.size w10 (w10.alloc (.cells #[.slice ra A.length rca] 30)) := (Below.refl _ w10).alloc (Nat.le_refl _) _
  generalize w10.alloc (.cells #[.slice ra A.length rca] 30) = w11 at *
  refine (rmerge_any w11 (some ⟨w10.heap.size, 0, none⟩) 1 [⟨ra, A, rca⟩] hrl (by rw [flat_one]; omega) (by simp)).mono ?_
  rintro e w12 ⟨ta, tc, rfl, hrt, hb12⟩
  rw [flat_one] at hrt ⊢
  have hs11 : w10.heap.size ≤ w11.heap.size := hb11.size
  have hb1012 : Below w10.heap.size w10 w12 := hb11.trans (hb12.mono hs11)
  have hs12 : w10.heap.size ≤ w12.heap.size := hb1012.size
  have HRT := mkH hrt
  have HB1012 := mkH hb1012
  obtain ⟨M2, hM2⟩ : ∃ M, mrg A = M := ⟨_, rfl⟩
  rw [hM2] at HRT HPZ ⊢
  clear hrl hb11 hb12 hb1012 hrt hM2
  go_wp2_with fail
  refine (same_any w12 za ta zc tc zs M2 ((HOZ.out.below HB1012.out).rx) HRT.out (by omega) HPZ.out).mono ?_
  rintro e w13 ⟨rfl, hb13⟩
  have hb513 : Below w5.heap.size w5 w13 := HB58.out.trans ((HB810.out.trans ((HB1012.out.trans (hb13.mono hs12)).mono hs10)).mono hs8)
  have HB513 := mkH hb513
  clear hb13 hb513 HRT HB1012 HB810 HB58 HPZ HOZ HRA8 HRA10
  go_wp2_with fail
  have hn0 := merge_any w13 none 0 [] (rl_none w13) (by simp [flat]) (by simp) (by simp) (by omega) (fun x hx => by simp [flat] at hx)
  simp only [List.length_nil] at hn0
  refine hn0.mono ?_
  rintro e w14 ⟨na, nc, ns, rfl, hpn, -, -, hb14⟩
  have hnl : ns = [] := by
    have := congrArg List.length hpn
    simp [flat, mrg] at this
    exact this
  subst hnl
  have hs13 : w5.heap.size ≤ w13.heap.size := HB513.out.size
  have HB514 : Hid (Below w5.heap.size w5 w14) := HB513.out.trans (hb14.mono hs13)
  have hs14 : w5.heap.size ≤ w14.heap.size := HB514.out.size
  clear hpn hb14 hn0 HB513
  go_wp2_with fail
  have HB114 : Hid (Below w1.heap.size w1 w14) := HB15.out.trans (HB514.out.mono (by omega))
  refine (few_any w14 ra rca A ((HoA.out.below HB114.out).rx) (own_le HoA.out.row) (own_cap HoA.out.row)).mono ?_
  rintro e w15 ⟨wa, wc, W, rfl, hpW, hoW, hb15⟩
  have HPW : Hid (A.map p3 = W.map p3) := by
    show _ = _
    rw [hpW, few_same hA40 HpA.out.2]
  have HB515 : Hid (Below w5.heap.size w5 w15) := HB514.out.trans (hb15.mono hs14)
  have HB115 : Hid (Below w1.heap.size w1 w15) := HB15.out.trans (HB515.out.mono (by omega))
  have HOW := mkH hoW
  have HMU : Hid (Mu w4.heap.size w15 w15 (.slice la ys.length lc) ys) := ⟨(HOY.out.below HB515.out).row, fun y hy => ⟨y.v, rfl, (HOY.out.below HB515.out).val y hy⟩, Fr.refl _ _⟩
  have HVB : Hid (∀ k, (∃ y ∈ ys, (Value.slice y.a y.v.length y.c).ownBlock = some k) → w4.heap.size ≤ k ∧ k < w5.heap.size) := fun k hk => by
    obtain ⟨y, hy, e⟩ := hk
    exact (HOY.out.val y hy).lt k e
  clear hpW hoW hb15 HB514 HB114 HPY HML
  go_wp2_with fail
  go_loopw [49] (fun i wr => ∃ j : Nat, j ≤ ys.length ∧ i = .int .i64 (j : Int) ∧ Hid (Mu w4.heap.size w15 wr (.slice la ys.length lc) ys)) (fun i _ => ys.length - (intOf i).toNat)
  case atStart => exact ⟨0, Nat.zero_le _, rfl, HMU⟩
  case round =>
    clear HMU
    obtain ⟨j, hj, rfl, HMU⟩ := hrel
    rcases Nat.lt_or_ge j ys.length with hjl | hjl
    · obtain ⟨y, hy⟩ := some_of hjl
      have HYM := mkH (List.mem_of_getElem? hy)
      have HRW : Hid (∀ W, Mu w4.heap.size w15 W (.slice la ys.length lc) ys → ∃ b off, la = some ⟨b, off, none⟩ ∧ W.cell? ⟨b, off + j * 3 + 2, none⟩ = some (.slice y.a y.v.length y.c)) := fun W hW => by
        obtain ⟨b, off, e, hc⟩ := (RowS.own vC_len hW.row : RowX W la ys) (by omega)
        exact ⟨b, off, e, hc j y hy 2 _ rfl⟩
      have hvl : y.v.length ≤ 1000000 := HVY.out y HYM.out
      obtain ⟨b1, o1, hla, c2⟩ := HRW.out wr HMU.out
      subst hla
      obtain ⟨s, bl, v, ya, yc⟩ := y
      simp only at c2 hvl HRW
      clear hy
      go_wp2_with fail
      generalize wr = wO at *
      go_loopw [58] (fun i wr => ∃ k : Nat, k ≤ v.length ∧ i = .int .i64 (k : Int) ∧ Hid (Mu w4.heap.size w15 wr (.slice (some ⟨b1, o1, none⟩) ys.length lc) ys)) (fun i _ => v.length - (intOf i).toNat)
      case atStart => exact ⟨0, Nat.zero_le _, rfl, HMU⟩
      case round =>
        clear HMU c2
        obtain ⟨k, hk, rfl, HMU⟩ := hrel
        rcases Nat.lt_or_ge k v.length with hkl | hkl
        · obtain ⟨b2, o2, hbo, c2⟩ := HRW.out wr HMU.out
          simp only [Option.some.injEq, Addr.mk.injEq] at hbo
          obtain ⟨rfl, rfl, -⟩ := hbo
          obtain ⟨bs, hbl, hob⟩ := HMU.out.val _ HYM.out
          simp only at hbl hob
          obtain ⟨g, rfl⟩ : ∃ g, ya = some ⟨g, 0, none⟩ := by
            rcases hob.2 with ⟨e, h0⟩ | ⟨g, cap, cur, e, -⟩
            · omega
            · simp only [Value.slice.injEq] at e
              exact ⟨g, e.1⟩
          have hcb : wr.cell? ⟨g, k, none⟩ = some (.int .u8 ((bs.getD k 0).toNat : Int)) := by
            have := World.ownsRow.cellAt hob k (by omega)
            rw [this, U_at bs k (by omega)]
          have hfz := hob.frozenAt k
          have HSET : Hid (∀ z : UInt8, Mu w4.heap.size w15 (wr.setCell ⟨g, k, none⟩ (.int .u8 (z.toNat : Int))) (.slice (some ⟨b1, o1, none⟩) ys.length lc) ys) := fun z => HMU.out.set HYM.out rfl k z
          generalize bs.getD k 0 = q at *
          clear hob hbl
          go_wp2
          rw [xor255]
          exact ⟨⟨k + 1, by omega, by go_num, HSET.out _⟩, by simp [intOf]; omega⟩
        · have hke : k = v.length := by omega
          subst hke
          go_wp2
          exact ⟨⟨j + 1, by omega, by go_num, HMU⟩, by simp [intOf]; omega⟩
    · have hje : j = ys.length := by omega
      subst hje
      have HFA : Hid (OwnX w.heap.size wr (.slice ra A.length rca) A) := OwnX.fr (HoA.out.below HB115.out) HMU.out.fr (fun k hk hq => by
        have h1 := (HoA.out.row.lt k hk).2
        have h2 := HVB.out k hq
        omega) (fun y hy k hk hq => by
        have h1 := ((HoA.out.val y hy).lt k hk).2
        have h2 := HVB.out k hq
        omega)
      have HFW : Hid (OwnX w14.heap.size wr (.slice wa W.length wc) W) := OwnX.fr HOW.out HMU.out.fr (fun k hk hq => by
        have h1 := (HOW.out.row.lt k hk).1
        have h2 := HVB.out k hq
        omega) (fun y hy k hk hq => by
        have h1 := ((HOW.out.val y hy).lt k hk).1
        have h2 := HVB.out k hq
        omega)
      have HBF : Hid (Below w.heap.size w wr) := HbA.out.trans ((HB115.out.trans (HMU.out.fr.below (fun k hk => by have := HVB.out k hk; omega) (by have := HB115.out.size; omega))).mono hs1)
      go_wp2_with fail
      refine (same_any wr ra wa rca wc A W HFA.out.rx HFW.out.rx (by omega) HPW.out).mono ?_
      rintro e w20 ⟨rfl, hb20⟩
      have HB20 : Hid (Below w.heap.size w w20) := HBF.out.trans (hb20.mono HBF.out.size)
      clear hb20
      go_wp2_with fail
      refine (works_any _).mono ?_
      rintro e w21 ⟨rfl, hb21⟩
      go_wp2
      go_ret
      exact ⟨rfl, HB20.out.trans (hb21.mono HB20.out.size)⟩
end Go.Proofs.Ytaainjkhenenoaa.Bme
