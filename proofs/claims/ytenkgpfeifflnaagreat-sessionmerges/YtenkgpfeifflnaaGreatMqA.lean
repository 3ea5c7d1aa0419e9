/-
  SeSc WiV0 WiV1 WiV2 SeX SeCp, joined by mrg.py.
-/
import Derived.Shelf.SlMaps.Clone
import Derived.Test.YtenkgpfeifflnaaGreatRows
import Derived.Test.YtenkgpfeifflnaaGreatWiX
import Derived.Test.YtenkgpfeifflnaaGreatWiA2
import Derived.Test.YtenkgpfeifflnaaGreatWiA3
import Derived.Test.YtenkgpfeifflnaaGreatSeD

namespace Go.Proofs.YtenkgpfeifflnaaGreat.Tsc
open Go.Shelf
def lclone_ren : Go.Shelf.Ren := ⟨fun | 5 => 33 | 7 => 51 | n => n, fun | 23 => 60 | 25 => 3 | 3 => 69 | 4 => 4 | 20 => 20 | n => n, fun | n => n⟩
theorem lclone : Go.Proofs.SlLaysW.n5 Tryz.prog lclone_ren := {
  mixed := by kernel_rfl
  f5 := ⟨Tryz.f33.name, by decide, Tryz.func33.trans (congrArg some (by kernel_rfl))⟩
  f7 := Tryz.func51.trans (congrArg some (by kernel_rfl))
  t4 := Tryz.underlying4
  a4 := Tryz.isAgg4
  z4 := Tryz.sizeOf4
  v4 := Tryz.zeroValue4
  t20 := Tryz.underlying20
  a20 := Tryz.isAgg20
  z20 := Tryz.sizeOf20
  v20 := Tryz.zeroValue20
  t23 := Tryz.underlying60
  a23 := Tryz.isAgg60
  z23 := Tryz.sizeOf60
  v23 := Tryz.zeroValue60 }
end Go.Proofs.YtenkgpfeifflnaaGreat.Tsc

namespace Go.Proofs.YtenkgpfeifflnaaGreat.Wv
open Go.RowKit Kt Pl Wi Wk Ww Wx Wa Wy
open At (RowT okT)
set_option linter.unusedVariables false
set_option linter.unusedSimpArgs false
set_option maxRecDepth 20000

theorem flat_take1 {α : Type} (f : α → Bs) (l : List α) (k : Nat) (x : α) (hx : l[k]? = some x) : (l.take (k + 1)).flatMap f = (l.take k).flatMap f ++ f x := by
  rw [List.take_add_one, hx, List.flatMap_append]; simp

theorem flat_le {α : Type} (f : α → Bs) (m : Nat) : ∀ (l : List α), (∀ x ∈ l, (f x).length ≤ m) → (l.flatMap f).length ≤ m * l.length
  | [], _ => by simp
  | x :: l, h => by
    have h1 := flat_le f m l (fun y hy => h y (by simp [hy]))
    have h2 := h x (by simp)
    rw [List.flatMap_cons, List.length_append, List.length_cons, Nat.mul_add]
    omega

theorem rg_len {x : Int × Int} (h : mayB x.1 x.2 = true) : (0 ≤ x.1 ∧ x.1 ≤ 65536) ∧ (0 ≤ x.2 ∧ x.2 ≤ 65536) ∧ (encRg x).length ≤ 18 := by
  simp only [mayB, Bool.and_eq_true, decide_eq_true_eq] at h
  have b1 : (encN x.1).length ≤ 9 := enc_len9 (by omega)
  have b2 : (encN x.2).length ≤ 9 := enc_len9 (by omega)
  refine ⟨by omega, by omega, ?_⟩
  unfold encRg
  rw [List.length_append]; omega

set_option maxHeartbeats 2000000 in
theorem ranges_any (w : World) (base : Nat) (v : Value) (bs : Bs) (hw : Wt w base v bs) (hb : base ≤ w.heap.size) (hn : bs.length ≤ 900000000) (ao : Option Addr) (cap : Nat) (l : List (Int × Int)) (hr : ∀ W, Below base w W → RowR W ao l) (hl : l.length ≤ 1024) (hok : ∀ x ∈ l, mayB x.1 x.2 = true) :
    Calls Tryz.prog 87 #[v, .slice ao l.length cap] w fun e w' => Wrote w base (bs ++ encMany encRg l) e w' := by
  have HR := mkH hr
  have HO := mkH hok
  have HW := mkH hw
  have ho1 : ∀ x ∈ [(l.length : Int)], 0 ≤ x ∧ x ≤ 4611686018427387904 := by intro x hx; simp at hx; subst hx; omega
  have hel : (encN (l.length : Int)).length ≤ 9 := enc_len9 (by omega)
  have H1 := nums_any (w.alloc (.cells #[.int .i64 (l.length : Int)] 3)) base v bs (hw.gr ((Gr.refl w).alloc _)) (by simp; omega) (by omega) w.heap.size 1 [(l.length : Int)] (Bx.new w _ _) (by simp) ho1
  clear hr hok hw
  go_enter Tryz.func87, Tryz.ntmps87
  go_wp2_with fail
  refine H1.mono ?_
  rintro e w1 ⟨v1, rfl, hw1, hb1, hu1⟩
  have HW1 : Hid (Wt w1 base v1 (bs ++ encN (l.length : Int))) := mkH (by simpa using hw1)
  have HB1 : Hid (Below base w w1) := mkH ((below_down ((Gr.refl w).alloc (.cells #[.int .i64 (l.length : Int)] 3)).below hb).trans hb1)
  have HU1 : Hid (U8 w w1) := mkH ((U8.ofGr ((Gr.refl w).alloc _)).trans hu1)
  clear H1 hw1 hb1 hu1 HW ho1
  go_wp2
  go_loopw [0, 6, 14] (fun v1 _ i wr => ∃ k : Nat, k ≤ l.length ∧ i = .int .i64 k ∧ Hid (Wt wr base v1 (bs ++ encN (l.length : Int) ++ (l.take k).flatMap encRg)) ∧ Hid (Below base w wr) ∧ Hid (U8 w wr)) (fun _ _ i _ => l.length - (intOf i).toNat)
  case atStart => exact ⟨0, Nat.zero_le _, rfl, mkH (by simpa using HW1.out), HB1, HU1⟩
  case round =>
    obtain ⟨k, hk, rfl, HW2, HBe, HU⟩ := hrel
    have hsz := HBe.out.size
    have hlen : ((l.take k).flatMap encRg).length ≤ 18 * 1024 := by
      have h1 := flat_le encRg 18 (l.take k) (fun x hx => (rg_len (HO.out x (List.mem_of_mem_take hx))).2.2)
      have h2 : (l.take k).length ≤ 1024 := by rw [List.length_take]; omega
      omega
    by_cases hlt : k < l.length
    · obtain ⟨b, off, hao, hcl⟩ := HR.out wr HBe.out (by omega)
      obtain ⟨x, hx⟩ := some_of hlt
      obtain ⟨⟨p1, p2⟩, ⟨p3, p4⟩, p5⟩ := rg_len (HO.out x (List.mem_of_getElem? hx))
      have HLD : Hid ((loadVar 95 ⟨b, off + k * 2, none⟩).run Tryz.prog wr = .ok (.agg #[.int .i64 x.1, .int .i64 x.2]) wr) := mkH (load_rng (hcl k x hx))
      subst hao
      have HF : Hid (bs ++ encN (l.length : Int) ++ (l.take (k + 1)).flatMap encRg = bs ++ encN (l.length : Int) ++ (l.take k).flatMap encRg ++ [x.1, x.2].flatMap encN) := mkH (by rw [flat_take1 _ _ _ _ hx, ← List.append_assoc]; simp [encRg])
      have ho2 : ∀ y ∈ [x.1, x.2], 0 ≤ y ∧ y ≤ 4611686018427387904 := by intro y hy; simp at hy; rcases hy with rfl | rfl <;> omega
      have HO2 := mkH ho2
      have HI : Hid ((Tryz.prog.info? 95).map (·.size) = some (#[.int .i64 x.1, .int .i64 x.2] : Array Value).size) := mkH infoR
      clear hcl hx ho2
      go_wp2_with (refine wpList_ld (ty := 95) (x := .tmp 16) rfl rfl rfl HLD.out ?_)
      have HG2 := mkH ((Gr.refl wr).alloc (.cells #[.int .i64 x.1, .int .i64 x.2] 95))
      have hz2 : (wr.alloc (.cells #[.int .i64 x.1, .int .i64 x.2] 95)).heap.size = wr.heap.size + 1 := by simp
      generalize wr.alloc (.cells #[.int .i64 x.1, .int .i64 x.2] 95) = W2 at *
      have hsz2 := HG2.out.below.size
      rw [← hz2]
      have H3 := nums_any (W2.alloc (.cells #[.int .i64 x.1, .int .i64 x.2] 3)) base u0 (bs ++ encN (l.length : Int) ++ (l.take k).flatMap encRg) (HW2.out.gr (HG2.out.alloc _)) (by simp; omega) (by simp only [List.length_append]; omega) W2.heap.size 2 [x.1, x.2] (Bx.new W2 _ _) (by simp) HO2.out
      refine H3.mono ?_
      rintro e w3 ⟨v3, rfl, hw3, hb3, hu3⟩
      rw [← HF.out] at hw3
      have HW3 := mkH hw3
      have HB3 : Hid (Below base w w3) := mkH (HBe.out.trans ((below_down (HG2.out.alloc (.cells #[.int .i64 x.1, .int .i64 x.2] 3)).below (by omega)).trans hb3))
      have HU3 : Hid (U8 w w3) := mkH (HU.out.trans ((U8.ofGr (HG2.out.alloc _)).trans hu3))
      clear H3 hw3 hb3 hu3 HBe HU HW2 HF HG2 HLD hz2
      go_wp2
      go_roundw
      case rel => exact ⟨k + 1, by omega, by go_num, HW3, HB3, HU3⟩
      case measure => simp [intOf]; omega
    · have hW := HW2.out
      rw [List.take_of_length_le (by omega)] at hW
      have HW3 : Hid (Wt wr base u0 (bs ++ encMany encRg l)) := mkH (by unfold encMany; rw [← List.append_assoc]; exact hW)
      clear hW HW2
      go_wp2
      go_ret
      exact ⟨_, rfl, HW3.out, HBe.out, HU.out⟩
end Go.Proofs.YtenkgpfeifflnaaGreat.Wv

namespace Go.Proofs.YtenkgpfeifflnaaGreat.Wv
open Go.RowKit Kt Pl Wi Wk Ww Wx Wa Wy
open At (RowT okT)
set_option linter.unusedVariables false
set_option linter.unusedSimpArgs false
set_option maxRecDepth 20000

def dstD : Nat → Nat := (fun i => if i = 0 then 18 else if i = 3 then 21 else if i = 6 then 24 else if i = 7 then 25 else if i = 10 then 28 else if i = 11 then 29 else if i = 12 then 0 else 0)

def consD : Nat → Nat := (fun i => if i = 0 then 3 else if i = 3 then 7 else if i = 6 then 7 else if i = 7 then 11 else if i = 10 then 11 else if i = 11 then 12 else 999)

def depsD : Nat → List Nat := (fun i => if i = 3 then [0] else if i = 7 then [3, 6] else if i = 11 then [7, 10] else if i = 12 then [11] else [])

def isWD : Nat → Bool := fun i => i == 0 || i == 3 || i == 7 || i == 11 || i == 12

def FD (base : Nat) (P : Bs) (g : Gt) : Nat → Value → World → Prop := fun i v w => if i = 0 then Wt w base v P else if i = 3 then Wt w base v (P ++ encRcp g.rc) else if i = 6 then BT [g.body] v w else if i = 7 then Wt w base v (P ++ encRcp g.rc ++ [g.body].flatMap encText) else if i = 10 then BI [g.sent] v w else if i = 11 then Wt w base v (P ++ encRcp g.rc ++ [g.body].flatMap encText ++ [g.sent].flatMap encN) else if i = 12 then Wt w base v (P ++ encRcp g.rc ++ [g.body].flatMap encText ++ [g.sent].flatMap encN) else True

theorem gt_ok {g : Gt} (h : rightG g = true) (h2 : shortG g = true) : rcB g.rc = true ∧ g.rc.g.length ≤ 4096 ∧ g.body.length ≤ 4096 ∧ (0 ≤ g.sent ∧ g.sent ≤ 4611686018427387904) ∧ (encRcp g.rc).length ≤ 5000 ∧ (encGt g).length ≤ 10000 := by
  simp only [rightG, shortG, Bool.and_eq_true, fitB, decide_eq_true_eq] at h h2
  obtain ⟨h, hs⟩ := h
  have hs := num_ok hs
  have hl : (encRcp g.rc).length ≤ 5000 := by
    have hrc := h
    simp only [rcB, Bool.and_eq_true] at hrc
    have a1 := num_ok hrc.1
    have a2 := num_ok hrc.2.1
    have a3 := num_ok hrc.2.2
    have b1 : (encN g.rc.q).length ≤ 9 := enc_len9 (by omega)
    have b2 : (encN g.rc.s).length ≤ 9 := enc_len9 (by omega)
    have b3 : (encN g.rc.c).length ≤ 9 := enc_len9 (by omega)
    have b4 := enc_len9 (n := g.rc.g.length) (by omega)
    simp only [encRcp, encText, List.length_append]
    omega
  refine ⟨h, by omega, by omega, by omega, hl, ?_⟩
  have b1 : (encN g.sent).length ≤ 9 := enc_len9 (by omega)
  have b4 := enc_len9 (n := g.body.length) (by omega)
  simp only [encGt, encText, List.length_append]
  omega

set_option maxHeartbeats 8000000 in
theorem deliveries_any (w : World) (base : Nat) (v : Value) (bs : Bs) (hw : Wt w base v bs) (hb : base ≤ w.heap.size) (hn : bs.length ≤ 500000000) (ao : Option Addr) (cap : Nat) (l : List Gt) (hr : ∀ W, Below base w W → RowG W ao l) (hl : l.length ≤ 1024) (hok : ∀ x ∈ l, rightG x = true ∧ shortG x = true) :
    Calls Tryz.prog 85 #[v, .slice ao l.length cap] w fun e w' => Wrote w base (bs ++ encMany encGt l) e w' := by
  have HR := mkH hr
  have HO := mkH hok
  have HW := mkH hw
  have ho1 : ∀ x ∈ [(l.length : Int)], 0 ≤ x ∧ x ≤ 4611686018427387904 := by intro x hx; simp at hx; subst hx; omega
  have hel : (encN (l.length : Int)).length ≤ 9 := enc_len9 (by omega)
  have H1 := nums_any (w.alloc (.cells #[.int .i64 (l.length : Int)] 3)) base v bs (hw.gr ((Gr.refl w).alloc _)) (by simp; omega) (by omega) w.heap.size 1 [(l.length : Int)] (Bx.new w _ _) (by simp) ho1
  clear hr hok hw
  go_enter Tryz.func85, Tryz.ntmps85
  go_wp2_with fail
  refine H1.mono ?_
  rintro e w1 ⟨v1, rfl, hw1, hb1, hu1⟩
  have HW1 : Hid (Wt w1 base v1 (bs ++ encN (l.length : Int))) := mkH (by simpa using hw1)
  have HB1 : Hid (Below base w w1) := mkH ((below_down ((Gr.refl w).alloc (.cells #[.int .i64 (l.length : Int)] 3)).below hb).trans hb1)
  have HU1 : Hid (U8 w w1) := mkH ((U8.ofGr ((Gr.refl w).alloc _)).trans hu1)
  clear H1 hw1 hb1 hu1 HW ho1
  go_wp2
  go_loopw [0, 6, 14] (fun v1 _ i wr => ∃ k : Nat, k ≤ l.length ∧ i = .int .i64 k ∧ Hid (Wt wr base v1 (bs ++ encN (l.length : Int) ++ (l.take k).flatMap encGt)) ∧ Hid (Below base w wr) ∧ Hid (U8 w wr)) (fun _ _ i _ => l.length - (intOf i).toNat)
  case atStart => exact ⟨0, Nat.zero_le _, rfl, mkH (by simpa using HW1.out), HB1, HU1⟩
  case round =>
    obtain ⟨k, hk, rfl, HW2, HBe, HU⟩ := hrel
    have hsz := HBe.out.size
    have hlen : ((l.take k).flatMap encGt).length ≤ 10000 * 1024 := by
      have h1 := flat_le encGt 10000 (l.take k) (fun x hx => (gt_ok (HO.out x (List.mem_of_mem_take hx)).1 (HO.out x (List.mem_of_mem_take hx)).2).2.2.2.2.2)
      have h2 : (l.take k).length ≤ 1024 := by rw [List.length_take]; omega
      omega
    by_cases hlt : k < l.length
    · obtain ⟨b, off, hao, hcl⟩ := HR.out wr HBe.out (by omega)
      obtain ⟨g, hx⟩ := some_of hlt
      obtain ⟨hrc, hrg, hgb, hgs, hl5, hl6⟩ := gt_ok (HO.out g (List.mem_of_getElem? hx)).1 (HO.out g (List.mem_of_getElem? hx)).2
      have HLD := mkH (load_got (hcl k g hx))
      subst hao
      have HF : Hid (bs ++ encN (l.length : Int) ++ (l.take (k + 1)).flatMap encGt = bs ++ encN (l.length : Int) ++ (l.take k).flatMap encGt ++ encRcp g.rc ++ [g.body].flatMap encText ++ [g.sent].flatMap encN) := mkH (by rw [flat_take1 _ _ _ _ hx, ← List.append_assoc]; simp [encGt])
      have oi : ∀ y ∈ [g.sent], 0 ≤ y ∧ y ≤ 4611686018427387904 := by intro y hy; simp at hy; subst hy; exact hgs
      have ot : ∀ y ∈ [g.body], y.length ≤ 4096 := by intro y hy; simp at hy; subst hy; exact hgb
      have lt1 := flatT_len [g.body] ot
      have li1 := flat_len [g.sent] oi
      simp only [List.length_cons, List.length_nil] at lt1 li1
      have HI : Hid ((Tryz.prog.info? 43).map (·.size) = some (Gv g).size) := mkH infoG
      have HONE := mkH (all1 _ (gC_one g))
      have k0 : (Gv g)[0]? = some (.int .i64 g.rc.q) := rfl
      have k1 : (Gv g)[1]? = some (.string (S g.rc.g)) := rfl
      have k2 : (Gv g)[2]? = some (.int .i64 g.rc.s) := rfl
      have k3 : (Gv g)[3]? = some (.int .i64 g.rc.c) := rfl
      have k4 : (Gv g)[4]? = some (.string (S g.body)) := rfl
      have k5 : (Gv g)[5]? = some (.int .i64 g.sent) := rfl
      clear hcl hx
      have hlP : (bs ++ encN (l.length : Int) ++ (l.take k).flatMap encGt).length ≤ 600000000 := by simp only [List.length_append]; omega
      generalize bs ++ encN (l.length : Int) ++ (l.take k).flatMap encGt = P at *
      generalize hCq : Gv g = C at *
      have HONE : Hid (C.all (fun x => x.oneCell') = true) := mkH (hCq ▸ HONE.out)
      have hCs : C.size = 6 := by rw [← hCq]; rfl
      have HSZ : Hid ((#[.int .i64 0, .string ⟨#[]⟩, .int .i64 0, .int .i64 0, .string ⟨#[]⟩, .int .i64 0] : Array Value).size = C.size) := mkH (by rw [hCs]; rfl)
      clear hCq hCs
      go_wp2_with (first
        | (refine wpList_ld (ty := 43) (x := .tmp 16) rfl rfl rfl HLD.out ?_)
        | (refine wpList_stn (x := .tmp 6) (y := .tmp 17) rfl rfl rfl rfl HI.out HSZ.out HONE.out ?_; intro W2 hB2 hG2; have HB2 := mkH hB2; have HG2 := mkH hG2; clear hB2 hG2))
      have HWW := mkH ((HW2.out.gr HG2.out).gr ((Gr.refl W2).drew))
      have HS0 : Hid (SR W2 base wr.heap.size C 43 W2.drew) := mkH ⟨HB2.out.gr ((Gr.refl _).drew), (Below.refl _ _).drew, (U8.refl _).drew⟩
      have HB0 : Hid (base ≤ W2.heap.size) := mkH (by have := HG2.out.below.size; omega)
      generalize hBq : wr.heap.size = B at HS0 ⊢
      clear hBq HB2
      refine wp_region_held_drew (S := fun W => SR W2 base B C 43 W) (by kernel_rfl) HS0.out (fun hHeld => ?_)
      have hq : ∀ W, SR W2 base B C 43 W → ∀ k, W.cell? ⟨B, k, none⟩ = C[k]? := fun W h => h.1.cell
      refine wpAnyH_take (i := 0) (oi := { dst := some 18, op := _, type := _, pos := _, after := _, guard := _ }) (v := ?_) rfl (by kernel_rfl) (by kernel_rfl) (by kernel_rfl) (fun _ _ _ h => h) (Or.inl ⟨by rfl, ?_⟩) (by assumption) ?_
      rotate_left
      · (intro W hSw; (try dsimp only at hSw); go_simp; try (with_reducible rfl))
      try simp only [Act.put, List.setIfInBounds_toArray, List.set_cons_zero, List.set_cons_succ]
      refine wpAnyH_take (i := 1) (oi := { dst := some 19, op := _, type := _, pos := _, after := _, guard := _ }) (v := ?_) rfl (by kernel_rfl) (by kernel_rfl) (by kernel_rfl) (fun _ _ _ h => h) (Or.inl ⟨by rfl, ?_⟩) (by assumption) ?_
      rotate_left
      · (intro W hSw; (try dsimp only at hSw); go_simp; try (with_reducible rfl))
      try simp only [Act.put, List.setIfInBounds_toArray, List.set_cons_zero, List.set_cons_succ]
      refine wpAnyH_take (i := 2) (oi := { dst := some 20, op := _, type := _, pos := _, after := _, guard := _ }) (v := ?_) rfl (by kernel_rfl) (by kernel_rfl) (by kernel_rfl) (fun _ _ _ h => h) (Or.inl ⟨by rfl, ?_⟩) (by assumption) ?_
      rotate_left
      · (intro W hSw; (try dsimp only at hSw); go_simp; try (with_reducible rfl))
      try simp only [Act.put, List.setIfInBounds_toArray, List.set_cons_zero, List.set_cons_succ]
      refine wpAnyH_take (i := 4) (oi := { dst := some 22, op := _, type := _, pos := _, after := _, guard := _ }) (v := ?_) rfl (by kernel_rfl) (by kernel_rfl) (by kernel_rfl) (fun _ _ _ h => h) (Or.inl ⟨by rfl, ?_⟩) (by assumption) ?_
      rotate_left
      · (intro W hSw; (try dsimp only at hSw); go_simp; try (with_reducible rfl))
      try simp only [Act.put, List.setIfInBounds_toArray, List.set_cons_zero, List.set_cons_succ]
      refine wpAnyH_take (i := 5) (oi := { dst := some 23, op := _, type := _, pos := _, after := _, guard := _ }) (v := ?_) rfl (by kernel_rfl) (by kernel_rfl) (by kernel_rfl) (fun _ _ _ h => h) (Or.inl ⟨by rfl, ?_⟩) (by assumption) ?_
      rotate_left
      · (intro W hSw; (try dsimp only at hSw); go_simp; try (with_reducible rfl))
      try simp only [Act.put, List.setIfInBounds_toArray, List.set_cons_zero, List.set_cons_succ]
      refine wpAnyH_take (i := 8) (oi := { dst := some 26, op := _, type := _, pos := _, after := _, guard := _ }) (v := ?_) rfl (by kernel_rfl) (by kernel_rfl) (by kernel_rfl) (fun _ _ _ h => h) (Or.inl ⟨by rfl, ?_⟩) (by assumption) ?_
      rotate_left
      · (intro W hSw; (try dsimp only at hSw); go_simp; try (with_reducible rfl))
      try simp only [Act.put, List.setIfInBounds_toArray, List.set_cons_zero, List.set_cons_succ]
      refine wpAnyH_take (i := 9) (oi := { dst := some 27, op := _, type := _, pos := _, after := _, guard := _ }) (v := ?_) rfl (by kernel_rfl) (by kernel_rfl) (by kernel_rfl) (fun _ _ _ h => h) (Or.inl ⟨by rfl, ?_⟩) (by assumption) ?_
      rotate_left
      · (intro W hSw; (try dsimp only at hSw); go_simp; try (with_reducible rfl))
      try simp only [Act.put, List.setIfInBounds_toArray, List.set_cons_zero, List.set_cons_succ]
      refine wpAnyH_lin [0, 3, 6, 7, 10, 11, 12] dstD consD depsD isWD [0] (FD base P g) Gr U8 (by decide) (by kernel_rfl) ?s0 ?s1 ?step ?fin ?hpre (by decide) hHeld (by decide) rfl
      case s0 =>
        intro i hi v w w' h hg
        simp only [List.mem_cons, List.not_mem_nil, or_false] at hi
        rcases hi with rfl | rfl | rfl | rfl | rfl | rfl | rfl
        · exact Wt.gr h hg
        · exact Wt.gr h hg
        · exact BT.gr h hg
        · exact Wt.gr h hg
        · exact BI.gr h hg
        · exact Wt.gr h hg
        · exact Wt.gr h hg
      case s1 =>
        intro i hi hw v w w' h hg
        simp only [List.mem_cons, List.not_mem_nil, or_false] at hi
        rcases hi with rfl | rfl | rfl | rfl | rfl | rfl | rfl
        · cases hw
        · cases hw
        · exact BT.u8 h hg
        · cases hw
        · exact BI.u8 h hg
        · cases hw
        · cases hw
      case hpre =>
        intro i hi
        obtain rfl := List.mem_singleton.1 hi
        exact HWW.out
      case step =>
        intro i hi hip x w hS hF
        simp only [List.mem_cons, List.not_mem_nil, or_false] at hi
        rcases hi with rfl | rfl | rfl | rfl | rfl | rfl | rfl
        · exact absurd (by decide) hip
        · have hw1 : Wt w base (x 0) P := hF 0 (by decide)
          refine op_call rfl rfl (f := 114) (args := #[x 0, .agg (Rv g.rc)]) ?_ ?_
          · simp only [puts, dstD, Act.put, List.setIfInBounds_toArray, reduceIte, Nat.reduceEqDiff, List.set_cons_zero, List.set_cons_succ]
            go_simp
            try rfl
          · refine (receipt_any w base (x 0) P g.rc hw1 (Nat.le_trans HB0.out hS.2.1.size) (by omega) hrc hrg).mono ?_
            rintro e w' ⟨v', rfl, hw', hb', hu'⟩
            exact ⟨v', rfl, _, rfl, hS.wrote (by decide) hb' hu', hw', hu'⟩
        · refine op_value rfl rfl (v := .slice (some ⟨w.heap.size, 0, none⟩) 1 1) (w' := w.alloc (.cells #[.string (S g.body)] 9)) ?_ ⟨_, rfl, hS.gr HB0.out ((Gr.refl w).alloc _), ⟨_, rfl, Bx.new w #[.string (S g.body)] 9⟩, (Gr.refl w).alloc _⟩
          simp only [puts, dstD, Act.put, List.setIfInBounds_toArray, reduceIte, Nat.reduceEqDiff, List.set_cons_zero, List.set_cons_succ]
          go_simp
        · obtain ⟨b, hx, hbx⟩ : BT [g.body] (x 6) w := hF 6 (by decide)
          have hw1 : Wt w base (x 3) (P ++ encRcp g.rc) := hF 3 (by decide)
          refine op_call rfl rfl (f := 115) (args := #[x 3, x 6]) ?_ ?_
          · simp only [puts, dstD, Act.put, List.setIfInBounds_toArray, reduceIte, Nat.reduceEqDiff, List.set_cons_zero, List.set_cons_succ]
            go_simp
          · rw [hx]
            refine (texts_any w base (x 3) (P ++ encRcp g.rc) hw1 (Nat.le_trans HB0.out hS.2.1.size) (by simp only [List.length_append]; omega) b _ [g.body] hbx (by simp) ot).mono ?_
            rintro e w' ⟨v', rfl, hw', hb', hu'⟩
            exact ⟨v', rfl, _, rfl, hS.wrote (by decide) hb' hu', hw', hu'⟩
        · refine op_value rfl rfl (v := .slice (some ⟨w.heap.size, 0, none⟩) 1 1) (w' := w.alloc (.cells #[.int .i64 g.sent] 3)) ?_ ⟨_, rfl, hS.gr HB0.out ((Gr.refl w).alloc _), ⟨_, rfl, Bx.new w #[.int .i64 g.sent] 3⟩, (Gr.refl w).alloc _⟩
          simp only [puts, dstD, Act.put, List.setIfInBounds_toArray, reduceIte, Nat.reduceEqDiff, List.set_cons_zero, List.set_cons_succ]
          go_simp
        · obtain ⟨b, hx, hbx⟩ : BI [g.sent] (x 10) w := hF 10 (by decide)
          have hw1 : Wt w base (x 7) (P ++ encRcp g.rc ++ [g.body].flatMap encText) := hF 7 (by decide)
          refine op_call rfl rfl (f := 84) (args := #[x 7, x 10]) ?_ ?_
          · simp only [puts, dstD, Act.put, List.setIfInBounds_toArray, reduceIte, Nat.reduceEqDiff, List.set_cons_zero, List.set_cons_succ]
            go_simp
          · rw [hx]
            refine (nums_any w base (x 7) (P ++ encRcp g.rc ++ [g.body].flatMap encText) hw1 (Nat.le_trans HB0.out hS.2.1.size) (by simp only [List.length_append]; omega) b _ [g.sent] hbx (by simp) oi).mono ?_
            rintro e w' ⟨v', rfl, hw', hb', hu'⟩
            exact ⟨v', rfl, _, rfl, hS.wrote (by decide) hb' hu', hw', hu'⟩
        · have hw1 : Wt w base (x 11) (P ++ encRcp g.rc ++ [g.body].flatMap encText ++ [g.sent].flatMap encN) := hF 11 (by decide)
          refine op_value rfl rfl (v := x 11) (w' := w) ?_ ⟨_, rfl, hS, hw1, U8.refl w⟩
          simp only [puts, dstD, Act.put, List.setIfInBounds_toArray, reduceIte, Nat.reduceEqDiff, List.set_cons_zero, List.set_cons_succ]
          go_simp
      case fin =>
        intro x w2 hS hF
        have hw1 : Wt w2 base (x 12) (P ++ encRcp g.rc ++ [g.body].flatMap encText ++ [g.sent].flatMap encN) := hF 12 (by decide) (by decide)
        rw [← HF.out] at hw1
        have HW3 := mkH hw1
        have HB3 : Hid (Below base w w2) := mkH (HBe.out.trans ((below_down HG2.out.below (by omega)).trans hS.2.1))
        have HU3 : Hid (U8 w w2) := mkH (HU.out.trans ((U8.ofGr HG2.out).trans hS.2.2))
        clear hw1 hF hS hq hHeld HS0 HWW HB0 HG2 HBe HU HW2 HLD
        simp only [puts, dstD, Act.put, List.setIfInBounds_toArray, reduceIte, Nat.reduceEqDiff, List.set_cons_zero, List.set_cons_succ]
        go_wp2
        go_roundw
        case rel => exact ⟨k + 1, by omega, by go_num, HW3, HB3, HU3⟩
        case measure => simp [intOf]; omega
    · have hW := HW2.out
      rw [List.take_of_length_le (by omega)] at hW
      have HW3 : Hid (Wt wr base u0 (bs ++ encMany encGt l)) := mkH (by unfold encMany; rw [← List.append_assoc]; exact hW)
      clear hW HW2
      go_wp2
      go_ret
      exact ⟨_, rfl, HW3.out, HBe.out, HU.out⟩
end Go.Proofs.YtenkgpfeifflnaaGreat.Wv

namespace Go.Proofs.YtenkgpfeifflnaaGreat.Wv
open Go.RowKit Kt Pl Wi Wk Ww Wx Wa Wy
open At (RowT okT)
set_option linter.unusedVariables false
set_option linter.unusedSimpArgs false
set_option maxRecDepth 20000

def dstP : Nat → Nat := (fun i => if i = 0 then 10 else if i = 7 then 17 else if i = 8 then 18 else if i = 11 then 21 else if i = 14 then 24 else if i = 17 then 27 else if i = 18 then 2 else if i = 19 then 3 else 0)

def consP : Nat → Nat := (fun i => if i = 0 then 8 else if i = 7 then 8 else if i = 8 then 11 else if i = 11 then 14 else if i = 14 then 17 else if i = 17 then 18 else 999)

def depsP : Nat → List Nat := (fun i => if i = 8 then [0, 7] else if i = 11 then [8] else if i = 14 then [11] else if i = 17 then [14] else if i = 18 then [17] else [])

def isWP : Nat → Bool := fun i => i == 0 || i == 8 || i == 11 || i == 14 || i == 17 || i == 18

def FP (base : Nat) (r : Rp) : Nat → Value → World → Prop := fun i v w => if i = 0 then Wt w base v ([] : Bs) else if i = 7 then BI [r.err, r.seq, r.n] v w else if i = 8 then Wt w base v (([] : Bs) ++ [r.err, r.seq, r.n].flatMap encN) else if i = 11 then Wt w base v (([] : Bs) ++ [r.err, r.seq, r.n].flatMap encN ++ encMany encGt r.got) else if i = 14 then Wt w base v (([] : Bs) ++ [r.err, r.seq, r.n].flatMap encN ++ encMany encGt r.got ++ encList encText r.data) else if i = 17 then Wt w base v (([] : Bs) ++ [r.err, r.seq, r.n].flatMap encN ++ encMany encGt r.got ++ encList encText r.data ++ encMany encRg r.about) else if i = 18 then Wt w base v (([] : Bs) ++ [r.err, r.seq, r.n].flatMap encN ++ encMany encGt r.got ++ encList encText r.data ++ encMany encRg r.about) else if i = 19 then v = .int .i64 0 else True

theorem rp_parts {r : Rp} (h : checkR r = 0) : (∀ x ∈ [r.err, r.seq, r.n], 0 ≤ x ∧ x ≤ 4611686018427387904) ∧ (r.got.length ≤ 1024 ∧ ∀ x ∈ r.got, rightG x = true ∧ shortG x = true) ∧ (r.data.length ≤ 1024 ∧ ∀ x ∈ r.data, x.length ≤ 4096) ∧ (r.about.length ≤ 1024 ∧ ∀ x ∈ r.about, mayB x.1 x.2 = true) := by
  obtain ⟨hr, hs⟩ := judge_ok h
  simp only [rightR, shortR, Bool.and_eq_true, decide_eq_true_eq, List.all_eq_true, upToB] at hr hs
  obtain ⟨r0, ⟨r1, r2⟩, r3, r4⟩ := hr
  obtain ⟨⟨s0, s1⟩, s2, s3⟩ := hs
  have s2 := dataB_ok s2
  have r1 := num_ok r1; have r2 := num_ok r2
  refine ⟨?_, ⟨s0, fun x hx => ⟨r3 x hx, s1 x hx⟩⟩, s2, ⟨s3, r4⟩⟩
  intro x hx; simp at hx; rcases hx with rfl | rfl | rfl <;> omega

theorem rp_bytes (r : Rp) : (([] : Bs) ++ [r.err, r.seq, r.n].flatMap encN ++ encMany encGt r.got ++ encList encText r.data ++ encMany encRg r.about) = encRp r := by simp [encRp]

theorem rp_lens {r : Rp} (h : checkR r = 0) : ([r.err, r.seq, r.n].flatMap encN).length ≤ 27 ∧ (encMany encGt r.got).length ≤ 10300000 ∧ (encList encText r.data).length ≤ 4300000 ∧ (encMany encRg r.about).length ≤ 30000 := by
  obtain ⟨q1, q2, q3, q4⟩ := rp_parts h
  have l1 := flat_len _ q1
  simp only [List.length_cons, List.length_nil] at l1
  have l2 := flat_le encGt 10000 r.got (fun x hx => (gt_ok (q2.2 x hx).1 (q2.2 x hx).2).2.2.2.2.2)
  have l3 := flatT_len r.data q3.2
  have l4 := flat_le encRg 18 r.about (fun x hx => (rg_len (q4.2 x hx)).2.2)
  have b2 : (encN (r.got.length : Int)).length ≤ 9 := enc_len9 (by omega)
  have b3 := enc_len9 (n := r.data.length) (by omega)
  have b4 : (encN (r.about.length : Int)).length ≤ 9 := enc_len9 (by omega)
  refine ⟨by omega, ?_, ?_, ?_⟩
  · unfold encMany; rw [List.length_append]; omega
  · unfold encList; rw [List.length_append]; omega
  · unfold encMany; rw [List.length_append]; omega

theorem rp_len {r : Rp} (h : checkR r = 0) : (encRp r).length ≤ 100000000 := by
  obtain ⟨l1, l2, l3, l4⟩ := rp_lens h
  rw [← rp_bytes]
  simp only [List.length_append, List.length_nil]
  omega

set_option maxHeartbeats 8000000 in
theorem reply_ok (w : World) (r : Rp) (ga : Option Addr) (gc : Nat) (da : Option Addr) (dc : Nat) (ra : Option Addr) (rc : Nat) (hm : RpM w r ga da ra) (hc : Cnt r) (hck : checkR r = 0) :
    Calls Tryz.prog 75 #[.agg (Pv r ga gc da dc ra rc)] w fun e w' => ∃ v, e = .returned (.tuple #[v, .int .i64 0]) ∧ Wt w' w.heap.size v (encRp r) ∧ Below w.heap.size w w' := by
  have H1 := checkReply_any (w.alloc (.cells (Pv r ga gc da dc ra rc) 34)) r ga gc da dc ra rc (RpM.gr hm ((Gr.refl w).alloc _)) hc
  rw [hck] at H1
  obtain ⟨q1, q2, q3, q4⟩ := rp_parts hck
  obtain ⟨l1, l2, l3, l4⟩ := rp_lens hck
  have HB := mkH (Bx.new w (Pv r ga gc da dc ra rc) 34)
  have HG := mkH ((Gr.refl w).alloc (.cells (Pv r ga gc da dc ra rc) 34))
  have HL := mkH (load_pv HB.out)
  obtain ⟨k0, k1, k2, k3, k4, k5⟩ := Pv_at r ga gc da dc ra rc
  generalize (Pv r ga gc da dc ra rc) = C at *
  go_enter Tryz.func75, Tryz.ntmps75
  go_wp2_with (refine wpList_ld (ty := 34) (x := .tmp 1) rfl rfl rfl HL.out ?_)
  refine H1.mono ?_
  rintro e w1 ⟨rfl, hg1⟩
  have HB1 := mkH (HB.out.gr hg1)
  have HG1 := mkH (HG.out.trans hg1)
  have HRw := mkH hm
  clear H1 HB HG HL hg1 hm
  go_wp2_with fail
  obtain ⟨base, hbase⟩ : ∃ base, base = w.heap.size := ⟨_, rfl⟩
  have HS0 : Hid (SR w1 base w.heap.size C 34 w1.drew) := mkH ⟨HB1.out.gr ((Gr.refl _).drew), (Below.refl _ _).drew, (U8.refl _).drew⟩
  have HB0 : Hid (base ≤ w1.heap.size) := mkH (hbase ▸ HG1.out.below.size)
  have HR0 : Hid (∀ W, Below base w1 W → RpM W r ga da ra) := mkH (fun W h => HRw.out.below (HG1.out.below.trans (hbase ▸ h)))
  have HBE := mkH hbase
  clear hbase HRw HB1
  generalize hBq : w.heap.size = B at HS0 ⊢
  have HBq := mkH hBq
  clear hBq
  refine wp_region_held_drew (S := fun W => SR w1 base B C 34 W) (by kernel_rfl) HS0.out (fun hHeld => ?_)
  have hq : ∀ W, SR w1 base B C 34 W → ∀ k, W.cell? ⟨B, k, none⟩ = C[k]? := fun W h => h.1.cell
  clear HS0
  refine wpAnyH_take (i := 1) (oi := { dst := some 11, op := _, type := _, pos := _, after := _, guard := _ }) (v := ?_) rfl (by kernel_rfl) (by kernel_rfl) (by kernel_rfl) (fun _ _ _ h => h) (Or.inl ⟨by rfl, ?_⟩) (by assumption) ?_
  rotate_left
  · (intro W hSw; (try dsimp only at hSw); go_simp; try (with_reducible rfl))
  try simp only [Act.put, List.setIfInBounds_toArray, List.set_cons_zero, List.set_cons_succ]
  refine wpAnyH_take (i := 2) (oi := { dst := some 12, op := _, type := _, pos := _, after := _, guard := _ }) (v := ?_) rfl (by kernel_rfl) (by kernel_rfl) (by kernel_rfl) (fun _ _ _ h => h) (Or.inl ⟨by rfl, ?_⟩) (by assumption) ?_
  rotate_left
  · (intro W hSw; (try dsimp only at hSw); go_simp; try (with_reducible rfl))
  try simp only [Act.put, List.setIfInBounds_toArray, List.set_cons_zero, List.set_cons_succ]
  refine wpAnyH_take (i := 3) (oi := { dst := some 13, op := _, type := _, pos := _, after := _, guard := _ }) (v := ?_) rfl (by kernel_rfl) (by kernel_rfl) (by kernel_rfl) (fun _ _ _ h => h) (Or.inl ⟨by rfl, ?_⟩) (by assumption) ?_
  rotate_left
  · (intro W hSw; (try dsimp only at hSw); go_simp; try (with_reducible rfl))
  try simp only [Act.put, List.setIfInBounds_toArray, List.set_cons_zero, List.set_cons_succ]
  refine wpAnyH_take (i := 4) (oi := { dst := some 14, op := _, type := _, pos := _, after := _, guard := _ }) (v := ?_) rfl (by kernel_rfl) (by kernel_rfl) (by kernel_rfl) (fun _ _ _ h => h) (Or.inl ⟨by rfl, ?_⟩) (by assumption) ?_
  rotate_left
  · (intro W hSw; (try dsimp only at hSw); go_simp; try (with_reducible rfl))
  try simp only [Act.put, List.setIfInBounds_toArray, List.set_cons_zero, List.set_cons_succ]
  refine wpAnyH_take (i := 5) (oi := { dst := some 15, op := _, type := _, pos := _, after := _, guard := _ }) (v := ?_) rfl (by kernel_rfl) (by kernel_rfl) (by kernel_rfl) (fun _ _ _ h => h) (Or.inl ⟨by rfl, ?_⟩) (by assumption) ?_
  rotate_left
  · (intro W hSw; (try dsimp only at hSw); go_simp; try (with_reducible rfl))
  try simp only [Act.put, List.setIfInBounds_toArray, List.set_cons_zero, List.set_cons_succ]
  refine wpAnyH_take (i := 6) (oi := { dst := some 16, op := _, type := _, pos := _, after := _, guard := _ }) (v := ?_) rfl (by kernel_rfl) (by kernel_rfl) (by kernel_rfl) (fun _ _ _ h => h) (Or.inl ⟨by rfl, ?_⟩) (by assumption) ?_
  rotate_left
  · (intro W hSw; (try dsimp only at hSw); go_simp; try (with_reducible rfl))
  try simp only [Act.put, List.setIfInBounds_toArray, List.set_cons_zero, List.set_cons_succ]
  refine wpAnyH_take (i := 9) (oi := { dst := some 19, op := _, type := _, pos := _, after := _, guard := _ }) (v := ?_) rfl (by kernel_rfl) (by kernel_rfl) (by kernel_rfl) (fun _ _ _ h => h) (Or.inl ⟨by rfl, ?_⟩) (by assumption) ?_
  rotate_left
  · (intro W hSw; (try dsimp only at hSw); go_simp; try (with_reducible rfl))
  try simp only [Act.put, List.setIfInBounds_toArray, List.set_cons_zero, List.set_cons_succ]
  refine wpAnyH_take (i := 10) (oi := { dst := some 20, op := _, type := _, pos := _, after := _, guard := _ }) (v := ?_) rfl (by kernel_rfl) (by kernel_rfl) (by kernel_rfl) (fun _ _ _ h => h) (Or.inl ⟨by rfl, ?_⟩) (by assumption) ?_
  rotate_left
  · (intro W hSw; (try dsimp only at hSw); go_simp; try (with_reducible rfl))
  try simp only [Act.put, List.setIfInBounds_toArray, List.set_cons_zero, List.set_cons_succ]
  refine wpAnyH_take (i := 12) (oi := { dst := some 22, op := _, type := _, pos := _, after := _, guard := _ }) (v := ?_) rfl (by kernel_rfl) (by kernel_rfl) (by kernel_rfl) (fun _ _ _ h => h) (Or.inl ⟨by rfl, ?_⟩) (by assumption) ?_
  rotate_left
  · (intro W hSw; (try dsimp only at hSw); go_simp; try (with_reducible rfl))
  try simp only [Act.put, List.setIfInBounds_toArray, List.set_cons_zero, List.set_cons_succ]
  refine wpAnyH_take (i := 13) (oi := { dst := some 23, op := _, type := _, pos := _, after := _, guard := _ }) (v := ?_) rfl (by kernel_rfl) (by kernel_rfl) (by kernel_rfl) (fun _ _ _ h => h) (Or.inl ⟨by rfl, ?_⟩) (by assumption) ?_
  rotate_left
  · (intro W hSw; (try dsimp only at hSw); go_simp; try (with_reducible rfl))
  try simp only [Act.put, List.setIfInBounds_toArray, List.set_cons_zero, List.set_cons_succ]
  refine wpAnyH_take (i := 15) (oi := { dst := some 25, op := _, type := _, pos := _, after := _, guard := _ }) (v := ?_) rfl (by kernel_rfl) (by kernel_rfl) (by kernel_rfl) (fun _ _ _ h => h) (Or.inl ⟨by rfl, ?_⟩) (by assumption) ?_
  rotate_left
  · (intro W hSw; (try dsimp only at hSw); go_simp; try (with_reducible rfl))
  try simp only [Act.put, List.setIfInBounds_toArray, List.set_cons_zero, List.set_cons_succ]
  refine wpAnyH_take (i := 16) (oi := { dst := some 26, op := _, type := _, pos := _, after := _, guard := _ }) (v := ?_) rfl (by kernel_rfl) (by kernel_rfl) (by kernel_rfl) (fun _ _ _ h => h) (Or.inl ⟨by rfl, ?_⟩) (by assumption) ?_
  rotate_left
  · (intro W hSw; (try dsimp only at hSw); go_simp; try (with_reducible rfl))
  try simp only [Act.put, List.setIfInBounds_toArray, List.set_cons_zero, List.set_cons_succ]
  refine wpAnyH_lin [0, 7, 8, 11, 14, 17, 18, 19] dstP consP depsP isWP [] (FP base r) Gr U8 (by decide) (by kernel_rfl) ?s0 ?s1 ?step ?fin ?hpre (by decide) hHeld (by decide) rfl
  case s0 =>
    intro i hi v w w' h hg
    simp only [List.mem_cons, List.not_mem_nil, or_false] at hi
    rcases hi with rfl | rfl | rfl | rfl | rfl | rfl | rfl | rfl
    · exact Wt.gr h hg
    · exact BI.gr h hg
    · exact Wt.gr h hg
    · exact Wt.gr h hg
    · exact Wt.gr h hg
    · exact Wt.gr h hg
    · exact Wt.gr h hg
    · exact h
  case s1 =>
    intro i hi hw v w w' h hg
    simp only [List.mem_cons, List.not_mem_nil, or_false] at hi
    rcases hi with rfl | rfl | rfl | rfl | rfl | rfl | rfl | rfl
    · cases hw
    · exact BI.u8 h hg
    · cases hw
    · cases hw
    · cases hw
    · cases hw
    · cases hw
    · exact h
  case hpre =>
    intro i hi
    cases hi
  case step =>
    intro i hi hip x w hS hF
    simp only [List.mem_cons, List.not_mem_nil, or_false] at hi
    rcases hi with rfl | rfl | rfl | rfl | rfl | rfl | rfl | rfl
    · refine op_value rfl rfl (v := .slice (some ⟨w.heap.size, 0, none⟩) 0 0) (w' := w.alloc (.cells #[] 5)) ?_ ⟨_, rfl, hS.gr HB0.out ((Gr.refl w).alloc _), (Wt.new w).mono (Nat.le_trans HB0.out hS.2.1.size), U8.ofGr ((Gr.refl w).alloc _)⟩
      simp only [puts, dstP, Act.put, List.setIfInBounds_toArray, reduceIte, Nat.reduceEqDiff, List.set_cons_zero, List.set_cons_succ]
      go_simp
    · refine op_value rfl rfl (v := .slice (some ⟨w.heap.size, 0, none⟩) 3 3) (w' := w.alloc (.cells #[.int .i64 r.err, .int .i64 r.seq, .int .i64 r.n] 3)) ?_ ⟨_, rfl, hS.gr HB0.out ((Gr.refl w).alloc _), ⟨_, rfl, Bx.new w #[.int .i64 r.err, .int .i64 r.seq, .int .i64 r.n] 3⟩, (Gr.refl w).alloc _⟩
      simp only [puts, dstP, Act.put, List.setIfInBounds_toArray, reduceIte, Nat.reduceEqDiff, List.set_cons_zero, List.set_cons_succ]
      go_simp
    · obtain ⟨b, hx, hbx⟩ : BI [r.err, r.seq, r.n] (x 7) w := hF 7 (by decide)
      have hw1 : Wt w base (x 0) ([] : Bs) := hF 0 (by decide)
      refine op_call rfl rfl (f := 84) (args := #[x 0, x 7]) ?_ ?_
      · simp only [puts, dstP, Act.put, List.setIfInBounds_toArray, reduceIte, Nat.reduceEqDiff, List.set_cons_zero, List.set_cons_succ]
        go_simp
      · rw [hx]
        refine (nums_any w base (x 0) ([] : Bs) hw1 (Nat.le_trans HB0.out hS.2.1.size) (by simp) b _ [r.err, r.seq, r.n] hbx (by simp) q1).mono ?_
        rintro e w' ⟨v', rfl, hw', hb', hu'⟩
        exact ⟨v', rfl, _, rfl, hS.wrote (by decide) hb' hu', hw', hu'⟩
    · have hw1 : Wt w base (x 8) (([] : Bs) ++ [r.err, r.seq, r.n].flatMap encN) := hF 8 (by decide)
      refine op_call rfl rfl (f := 85) (args := #[x 8, .slice ga r.got.length gc]) ?_ ?_
      · simp only [puts, dstP, Act.put, List.setIfInBounds_toArray, reduceIte, Nat.reduceEqDiff, List.set_cons_zero, List.set_cons_succ]
        go_simp
      · refine (deliveries_any w base (x 8) (([] : Bs) ++ [r.err, r.seq, r.n].flatMap encN) hw1 (Nat.le_trans HB0.out hS.2.1.size) (by simp only [List.length_append, List.length_nil]; omega) ga gc r.got (fun W h => (HR0.out W (hS.2.1.trans h)).got) q2.1 q2.2).mono ?_
        rintro e w' ⟨v', rfl, hw', hb', hu'⟩
        exact ⟨v', rfl, _, rfl, hS.wrote (by decide) hb' hu', hw', hu'⟩
    · have hw1 : Wt w base (x 11) (([] : Bs) ++ [r.err, r.seq, r.n].flatMap encN ++ encMany encGt r.got) := hF 11 (by decide)
      refine op_call rfl rfl (f := 86) (args := #[x 11, .slice da r.data.length dc]) ?_ ?_
      · simp only [puts, dstP, Act.put, List.setIfInBounds_toArray, reduceIte, Nat.reduceEqDiff, List.set_cons_zero, List.set_cons_succ]
        go_simp
      · refine (data_any w base (x 11) (([] : Bs) ++ [r.err, r.seq, r.n].flatMap encN ++ encMany encGt r.got) hw1 (Nat.le_trans HB0.out hS.2.1.size) (by simp only [List.length_append, List.length_nil]; omega) da dc r.data (HR0.out w hS.2.1).data q3.1 q3.2).mono ?_
        rintro e w' ⟨v', rfl, hw', hb', hu'⟩
        exact ⟨v', rfl, _, rfl, hS.wrote (by decide) hb' hu', hw', hu'⟩
    · have hw1 : Wt w base (x 14) (([] : Bs) ++ [r.err, r.seq, r.n].flatMap encN ++ encMany encGt r.got ++ encList encText r.data) := hF 14 (by decide)
      refine op_call rfl rfl (f := 87) (args := #[x 14, .slice ra r.about.length rc]) ?_ ?_
      · simp only [puts, dstP, Act.put, List.setIfInBounds_toArray, reduceIte, Nat.reduceEqDiff, List.set_cons_zero, List.set_cons_succ]
        go_simp
      · refine (ranges_any w base (x 14) (([] : Bs) ++ [r.err, r.seq, r.n].flatMap encN ++ encMany encGt r.got ++ encList encText r.data) hw1 (Nat.le_trans HB0.out hS.2.1.size) (by simp only [List.length_append, List.length_nil]; omega) ra rc r.about (fun W h => (HR0.out W (hS.2.1.trans h)).about) q4.1 q4.2).mono ?_
        rintro e w' ⟨v', rfl, hw', hb', hu'⟩
        exact ⟨v', rfl, _, rfl, hS.wrote (by decide) hb' hu', hw', hu'⟩
    · have hw1 : Wt w base (x 17) (([] : Bs) ++ [r.err, r.seq, r.n].flatMap encN ++ encMany encGt r.got ++ encList encText r.data ++ encMany encRg r.about) := hF 17 (by decide)
      refine op_value rfl rfl (v := x 17) (w' := w) ?_ ⟨_, rfl, hS, hw1, U8.refl w⟩
      simp only [puts, dstP, Act.put, List.setIfInBounds_toArray, reduceIte, Nat.reduceEqDiff, List.set_cons_zero, List.set_cons_succ]
      go_simp
    · refine op_value rfl rfl (v := .int .i64 0) (w' := w) ?_ ⟨_, rfl, hS, rfl, Gr.refl w⟩
      simp only [puts, dstP, Act.put, List.setIfInBounds_toArray, reduceIte, Nat.reduceEqDiff, List.set_cons_zero, List.set_cons_succ]
      go_simp
  case fin =>
    intro x w2 hS hF
    have hw1 : Wt w2 base (x 18) (([] : Bs) ++ [r.err, r.seq, r.n].flatMap encN ++ encMany encGt r.got ++ encList encText r.data ++ encMany encRg r.about) := hF 18 (by decide) (by decide)
    have hc0 : x 19 = .int .i64 0 := hF 19 (by decide) (by decide)
    rw [rp_bytes] at hw1
    have HW1 := mkH hw1
    have HS1 := mkH hS
    clear hw1 hF hS hq hHeld
    simp only [puts, dstP, Act.put, List.setIfInBounds_toArray, reduceIte, Nat.reduceEqDiff, List.set_cons_zero, List.set_cons_succ]
    go_wp2
    go_ret2
    refine ⟨x 18, ?_, HBE.out ▸ HW1.out, ?_⟩
    · show Ending.returned (.tuple #[x 18, x 19]) = _
      rw [hc0]
    · exact HG1.out.below.trans (HBE.out ▸ HS1.out.2.1)

set_option maxHeartbeats 4000000 in
theorem reply_bad (w : World) (r : Rp) (ga : Option Addr) (gc : Nat) (da : Option Addr) (dc : Nat) (ra : Option Addr) (rc : Nat) (hm : RpM w r ga da ra) (hc : Cnt r) (hck : checkR r ≠ 0) :
    Calls Tryz.prog 75 #[.agg (Pv r ga gc da dc ra rc)] w fun e w' => e = .returned (.tuple #[.slice none 0 0, .int .i64 (checkR r : Int)]) ∧ Below w.heap.size w w' := by
  have H1 := checkReply_any (w.alloc (.cells (Pv r ga gc da dc ra rc) 34)) r ga gc da dc ra rc (RpM.gr hm ((Gr.refl w).alloc _)) hc
  have HB := mkH (Bx.new w (Pv r ga gc da dc ra rc) 34)
  have HG := mkH ((Gr.refl w).alloc (.cells (Pv r ga gc da dc ra rc) 34))
  have HL := mkH (load_pv HB.out)
  generalize Pv r ga gc da dc ra rc = C at *
  generalize checkR r = j at *
  have te : ((j : Int) == 0) = false := by simp; omega
  clear hck
  go_enter Tryz.func75, Tryz.ntmps75
  go_wp2_with (refine wpList_ld (ty := 34) (x := .tmp 1) rfl rfl rfl HL.out ?_)
  refine H1.mono ?_
  rintro e w1 ⟨rfl, hg1⟩
  have HG1 := mkH (HG.out.trans hg1)
  clear H1 HB HG HL hg1 hm
  go_wp2
  go_ret2
  exact ⟨rfl, HG1.out.below⟩
end Go.Proofs.YtenkgpfeifflnaaGreat.Wv

namespace Go.Proofs.YtenkgpfeifflnaaGreat.Sx
open Go.RowKit Kt Pl Wi Wk Wa Sm Sa Sb Sc Sd
set_option linter.unusedVariables false
set_option maxRecDepth 20000

/-- A text of a client's answer. -/
def encE (e : E) : Bs := encN e.k ++ (encN e.n ++ encRp e.r)
def okW (f : Rp → Bool) (e : E) : Bool := f e.r && decide (checkR e.r = 0)
def texts (f : Rp → Bool) (l : List E) : List Bs := (l.filter (okW f)).map encE
/-- What a text tells. -/
def rdE (bs : Bs) : Option E := match pNum bs with
  | .error _ => none
  | .ok (k, b1) => if num k then (match pNum b1 with
    | .error _ => none
    | .ok (n, b2) => if num n then (match readRp b2 with
      | .error _ => none
      | .ok r => some ⟨k, n, r⟩) else none) else none
theorem rdE_enc {e : E} (hk : num e.k) (hn : num e.n) (hc : checkR e.r = 0) : rdE (encE e) = some e := by
  unfold num at hk hn
  unfold rdE encE
  rw [(fits_num (by omega) (by omega)).1]
  simp only
  rw [if_pos (by unfold num; omega), (fits_num (by omega) (by omega)).1]
  simp only
  rw [if_pos (by unfold num; omega)]
  have h := (whole_fits (fits_rp hc) hc).1
  have h2 : readRp (encRp e.r) = .ok e.r := h
  rw [h2]
theorem rdE_ok {bs : Bs} {e : E} (h : rdE bs = some e) : num e.k ∧ num e.n ∧ ∃ b2, readRp b2 = .ok e.r := by
  unfold rdE at h
  split at h
  · cases h
  · split at h
    · rename_i hk
      split at h
      · cases h
      · split at h
        · rename_i hn
          split at h
          · cases h
          · rename_i hr
            cases h
            exact ⟨hk, hn, _, hr⟩
        · cases h
    · cases h
def readE : List Bs → Option (List E)
  | [] => some []
  | b :: l => match rdE b with
    | none => none
    | some e => match readE l with
      | none => none
      | some es => some (e :: es)
theorem readE_texts (f : Rp → Bool) : ∀ (l : List E), (∀ e ∈ l, num e.k ∧ num e.n) → readE (texts f l) = some (l.filter (okW f))
  | [], _ => rfl
  | e :: l, h => by
    have ih := readE_texts f l (fun x hx => h x (by simp [hx]))
    unfold texts at ih ⊢
    by_cases hc : okW f e = true
    · rw [List.filter_cons_of_pos hc, List.map_cons, readE, rdE_enc (h e (by simp)).1 (h e (by simp)).2 (by unfold okW at hc; simp at hc; exact hc.2)]
      simp only
      rw [ih]
    · rw [List.filter_cons_of_neg hc]
      exact ih
theorem encN_len (n : Int) (h : n ≤ 4611686018427387904) : (encN n).length ≤ 9 := by
  unfold encN
  exact enc_len9 (by omega)
end Go.Proofs.YtenkgpfeifflnaaGreat.Sx

namespace Go.Proofs.YtenkgpfeifflnaaGreat.Scp
open Go.RowKit Go.Maps Go.Shelf Kt Pl Wi Wk Wa Sm Sa Sb Sc Sd Tsc
open Dk (Fr)
set_option linter.unusedVariables false
set_option linter.unusedSimpArgs false
set_option maxRecDepth 20000

theorem mclone_any {w : World} {b : Nat} {l : List X} (h : Mt w b l) : Calls Tryz.prog 33 #[.map (some b)] w fun e w' => e = .returned (.map (some w.heap.size)) ∧ Mt w' w.heap.size l ∧ Below w.heap.size w w' :=
  (AnyW.maps_Clone_owns lclone 3 vE b l.length (Dm X.k X.v l) w h).mono (fun e w' ⟨h1, h2, h3, h4⟩ => ⟨h1, h2, h4⟩)
/-- A table stays where another one's map turns. -/
theorem Tx.other {w w' : World} {F : Nat → Prop} {T Mb b : Nat} {xs : List X} (h : Tx w F T Mb xs) (hf : Fr (fun k => k = b) w w') (hb : Bare w b) (hne : b ≠ Mb) : Tx w' F T Mb xs :=
  ⟨bx_fr h.bx hf (hb ⟨T, 0, none⟩ _ (h.bx.cell 0)), h.m.fr hf (Ne.symm hne), h.s, fun x hx => by
    obtain ⟨h1, h2⟩ := h.r x hx
    exact ⟨rpM_bare h1 hf hb, h2⟩, h.ft, h.fm, h.len⟩
theorem Tb.other {w w' : World} {F : Nat → Prop} {T Mb b : Nat} {l : List E} (h : Tb w F T Mb l) (hf : Fr (fun k => k = b) w w') (hb : Bare w b) (hne : b ≠ Mb) : Tb w' F T Mb l := by
  obtain ⟨xs, e, h⟩ := h
  exact ⟨xs, e, Tx.other h hf hb hne⟩
theorem Tb.bare {w : World} {F : Nat → Prop} {T Mb : Nat} {l : List E} (h : Tb w F T Mb l) : Bare w Mb := by
  obtain ⟨xs, -, h⟩ := h
  exact Mt.bare h.m
theorem Tb.lt {w : World} {F : Nat → Prop} {T Mb : Nat} {l : List E} (h : Tb w F T Mb l) : Mb < w.heap.size := by
  obtain ⟨xs, -, h⟩ := h
  exact h.m.lt
theorem Tb.nums {w : World} {F : Nat → Prop} {T Mb : Nat} {l : List E} (h : Tb w F T Mb l) : Srt E.k l ∧ l.length ≤ 64 ∧ ∀ e ∈ l, num e.k ∧ num e.n ∧ Cnt e.r := by
  obtain ⟨xs, rfl, h⟩ := h
  refine ⟨map_srt (kb := E.k) X.p (fun _ => rfl) h.s, by simpa using h.len, fun e he => ?_⟩
  obtain ⟨x, hx, rfl⟩ := List.mem_map.1 he
  obtain ⟨-, h2, -, h4⟩ := h.r x hx
  exact ⟨h4.1, h4.2, h2⟩

set_option maxHeartbeats 1000000 in
theorem copy_any {w : World} {F : Nat → Prop} {T Mb : Nat} {l : List E} (ht : Tb w F T Mb l) :
    Calls Tryz.prog 12 #[.pointer (some ⟨T, 0, none⟩)] w fun e w' => ∃ T2, e = .returned (.pointer (some ⟨T2, 0, none⟩)) ∧ w.heap.size < T2 ∧ Tb w' (fun _ => True) T2 w.heap.size l ∧ Below w.heap.size w w' := by
  obtain ⟨xs, hxs, hx⟩ := ht
  have HXS := mkH hxs
  have HX := mkH hx
  have cT : w.cell? ⟨T, 0, none⟩ = some (.map (some Mb)) := hx.bx.cell 0
  clear hxs hx
  go_enter Tryz.func12, Tryz.ntmps12
  go_wp2_with (first
    | (go_at_call 26; refine (isMade_yes HX.out.bx).mono ?_; rintro e1 w1 ⟨rfl, h⟩; have h2 := h.symm; clear h; subst h2)
    | (go_at_call 33; refine (mclone_any HX.out.m).mono ?_; rintro e1 W1 ⟨rfl, hm1, hb1⟩; have HM1 := mkH hm1; have HB1 := mkH hb1; clear hm1 hb1))
  go_ret
  have hal : Below W1.heap.size W1 (W1.alloc (.cells #[.map (some w.heap.size)] 62)) := (Below.refl _ _).alloc (Nat.le_refl _) _
  have hlt := HM1.out.lt
  refine ⟨W1.heap.size, rfl, hlt, ⟨xs, HXS.out, ⟨Bx.new W1 _ _, HM1.out.below hal, HX.out.s, fun x hx => ?_, trivial, trivial, HX.out.len⟩⟩, HB1.out.trans (hal.mono HB1.out.size)⟩
  obtain ⟨h1, h2, h3, h4⟩ := HX.out.r x hx
  exact ⟨(h1.below HB1.out).below hal, h2, ⟨fun a _ => trivial, fun a _ => trivial, fun a _ => trivial⟩, h4⟩
end Go.Proofs.YtenkgpfeifflnaaGreat.Scp
