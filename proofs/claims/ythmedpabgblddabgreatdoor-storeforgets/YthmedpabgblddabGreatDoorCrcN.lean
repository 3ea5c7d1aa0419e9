/-
  The contracts of find and Next.
-/
import Derived.Test.YthmedpabgblddabGreatDoorCrcF
import Derived.Deep.QuietTactic
import Derived.Deep.RegionHeld3
import Derived.Deep.CutRange
import Derived.Deep.DeepCutAuto
namespace Go.Proofs.YthmedpabgblddabGreatDoor.Cn
open Go.RowKit Kt Cs Cw Cf
set_option linter.unusedVariables false

set_option maxHeartbeats 1000000 in
set_option maxRecDepth 20000 in
theorem find_arg (w : World) (ao : Option Addr) (n cap : Nat) (k : Int) (h : k < 0 ∨ (n : Int) < k) :
    Calls Tryz.prog 74 #[.slice ao n cap, .int .i64 k] w fun e w' => e = .returned (.tuple #[.slice none 0 0, .int .i64 0, .int .i64 2]) ∧ w' = w := by
  by_cases h0 : k < 0
  · have c1 : decide (k < 0) = true := by simpa using h0
    clear h h0
    go_enter Tryz.func74, Tryz.ntmps74
    go_wp2
    go_ret3
    exact ⟨rfl, rfl⟩
  · have c1 : decide (k < 0) = false := by simpa using h0
    have c2 : decide ((n : Int) < k) = true := by simp; omega
    clear h h0
    go_enter Tryz.func74, Tryz.ntmps74
    go_wp2
    go_ret3
    exact ⟨rfl, rfl⟩

set_option maxHeartbeats 1000000 in
set_option maxRecDepth 20000 in
theorem find_short (w : World) (ao : Option Addr) (n cap k : Nat) (hn : n ≤ 1000000000) (hc : n ≤ cap) (hcap : cap ≤ 9223372036854775807) (hk : k ≤ n) (h : n < k + 12) :
    Calls Tryz.prog 74 #[.slice ao n cap, .int .i64 k] w fun e w' => e = .returned (.tuple #[.slice none 0 0, .int .i64 0, .int .i64 4]) ∧ w' = w := by
  have c1 : decide ((k : Int) < 0) = false := by simp
  have c2 : decide ((n : Int) < (k : Int)) = false := by simp; omega
  obtain ⟨aq, haq⟩ : ∃ aq, (if cap = k then ao else Option.map (fun x => x.add k) ao) = aq := ⟨_, rfl⟩
  go_enter Tryz.func74, Tryz.ntmps74
  go_wp2
  go_ret3
  exact ⟨rfl, rfl⟩

theorem below_drewN {B : Nat} {w w' : World} (h : Below B w w') (n : Nat) : Below B w (w'.drewN n) := ⟨h.os, h.tape, h.output, h.size, h.block⟩
theorem Row_at {w : World} {b off : Nat} {bs : List UInt8} (h : Row w (some ⟨b, off, none⟩) bs) (j : Nat) : Row w (some ⟨b, off + j, none⟩) (bs.drop j) := by
  intro hl
  rw [List.length_drop] at hl
  obtain ⟨b', off', e, hc⟩ := h (by omega)
  cases e
  refine ⟨b, off + j, rfl, fun i hi => ?_⟩
  rw [List.length_drop] at hi
  rw [Nat.add_assoc, hc (j + i) (by omega)]
  simp
/-- The sum of one part that lies in the list of parts. -/
theorem sum_part (W : World) (ao pa : Option Addr) (n c pc : Nat) (bs : List UInt8) (x : Nat) (hx : Cp.sum bs = x) (hn : n = bs.length) (hl : bs.length ≤ 1000000) (hT : Tb W) (b : Nat) (hao : ao = some ⟨b, 0, none⟩) (hc : W.cell? ⟨b, 0, none⟩ = some (.slice pa n pc)) (hr : Row W pa bs) :
    Calls Tryz.prog 64 #[.slice ao 1 c] W fun e w' => e = .returned (.int .u32 (x : Nat)) ∧ w' = W := by
  subst hx hn
  have := sum_any W ao c [⟨pa, pc, bs⟩] hT (by
    intro _
    refine ⟨b, 0, hao, fun i p hp => ?_⟩
    have hi : i = 0 := by
      rcases Nat.eq_zero_or_pos i with h | h
      · exact h
      · rw [List.getElem?_eq_none (by simp; omega)] at hp; cases hp
    subst hi
    simp at hp
    subst hp
    exact ⟨hc, hr, hl⟩) (by simp)
  rw [cat_one] at this
  exact this
/-- The number at the beginning of a row. -/
theorem word_part (W : World) (ao : Option Addr) (n c : Nat) (bs : List UInt8) (x : Nat) (hx : Cp.word bs = x) (hn : n = bs.length) (h4 : 4 ≤ n) (hl : n ≤ 1000000000) (hr : Row W ao bs) :
    Calls Tryz.prog 84 #[.slice ao n c] W fun e w' => e = .returned (.int .u32 (x : Nat)) ∧ ∃ q, w' = W.drewN q := by
  subst hx hn
  exact word_any W ao c bs hr h4 hl

set_option maxHeartbeats 1000000 in
set_option maxRecDepth 20000 in
theorem find_any (w : World) (b off d k m : Nat) (r : List UInt8) (hT : Tb w) (hr : Row w (some ⟨b, off + k, none⟩) r) (hrl : r.length = m + 12) (hm : m ≤ 1000000) (hd : m ≤ d) (hcap : d + 12 + k ≤ 9223372036854775807) (hk : k ≤ 1000000000) :
    Calls Tryz.prog 74 #[.slice (some ⟨b, off, none⟩) (m + 12 + k) (d + 12 + k), .int .i64 k] w fun e w' => Below w.heap.size w w' ∧
      (((Cp.fd r).1 ≠ 0 ∧ e = .returned (.tuple #[.slice none 0 0, .int .i64 0, .int .i64 ((Cp.fd r).1 : Nat)])) ∨
       ((Cp.fd r).1 = 0 ∧ ∃ aq, e = .returned (.tuple #[.slice aq (Cp.fd r).2 d, .int .i64 ((k + 12 + (Cp.fd r).2 : Nat) : Int), .int .i64 0]) ∧ ∀ u, Row u (some ⟨b, off + k, none⟩) r → Row u aq ((r.drop 12).take (Cp.fd r).2))) := by
  have c1 : decide ((k : Int) < 0) = false := by simp
  have c2 : decide (((m + 12 + k : Nat) : Int) < (k : Int)) = false := by simp; omega
  have hT0 := hT.size
  obtain ⟨s1, hs1⟩ : ∃ s1, Cp.sum (r.take 4) = s1 := ⟨_, rfl⟩
  obtain ⟨w1, hw1⟩ : ∃ w1, Cp.word (r.drop 4) = w1 := ⟨_, rfl⟩
  have hS1l : s1 < 4294967296 := by rw [← hs1]; exact Cp.sum_lt _
  have i1 : (4 : Int) ≤ (d : Int) + 12 := by omega
  have i2 : (4 : Int) ≤ (m : Int) + 12 := by omega
  have i3 : (m : Int) + 12 ≤ (d : Int) + 12 := by omega
  have i4 : ¬ (d + 12 = 4) := by omega
  have i5 : (0 : Int) ≤ (m : Int) + 12 := by omega
  have i6 : (m : Int) ≤ (d : Int) := by omega
  have HS1 := mkH hs1
  have HW1 := mkH hw1
  clear hs1 hw1
  go_enter Tryz.func74, Tryz.ntmps74
  go_upto_region 6 with fail
  go_cut [1, 7, 31] (fun v1 v7 v31 wc => v1 = .int .i64 k ∧ v7 = .slice (some ⟨b, off + k, none⟩) (m + 12) (d + 12) ∧ v31 = .bool ((s1 : Int) != (w1 : Int)) ∧ Below w.heap.size w wc)
  case first =>
    go_region_held3 (fun w' => True) (trivial) (first
      | (go_at_call 64; refine (sum_part _ _ (some ⟨b, off + k, none⟩) 4 _ (d + 12) (r.take 4) s1 HS1.out (by rw [List.length_take]; omega) (by rw [List.length_take]; omega) ?_ _ rfl ?_ ?_).mono ?_; (refine hT.below (B := w.heap.size) ?_ hT0; (repeat (first | exact Below.refl _ _ | refine Below.drew ?_ | refine below_drewN ?_ _ | refine Below.alloc ?_ (by simp) _))); (exact cell_new_at w #[.slice (some ⟨b, off + k, none⟩) 4 (d + 12)] 30 0 _ rfl); (refine (Row_take hr 4).below ?_; (repeat (first | exact Below.refl _ _ | refine Below.drew ?_ | refine below_drewN ?_ _ | refine Below.alloc ?_ (by simp) _))); rintro e u1 ⟨rfl, rfl⟩)
      | (go_at_call 84; refine (word_part _ _ _ _ (r.drop 4) w1 HW1.out (by rw [List.length_drop]; omega) (by omega) (by omega) ?_).mono ?_; (refine (Row_at hr 4).below ?_; (repeat (first | exact Below.refl _ _ | refine Below.drew ?_ | refine below_drewN ?_ _ | refine Below.alloc ?_ (by simp) _))); rintro e u2 ⟨rfl, q, rfl⟩))
    all_goals
      go_wp2_with fail
      go_meet
      refine ⟨rfl, rfl, rfl, ?_⟩
      (repeat (first | exact Below.refl _ _ | refine Below.drew ?_ | refine below_drewN ?_ _ | refine Below.alloc ?_ (by simp) _))
  case rest =>
    obtain ⟨hv1, hv7, hv31, hB⟩ := hcut
    subst hv1 hv7 hv31
    clear i1 i2 i4 c1 c2
    by_cases h1 : s1 = w1
    · have t1 : ((s1 : Int) != (w1 : Int)) = false := by simp [h1]
      obtain ⟨sz, hsz⟩ : ∃ sz, Cp.word r = sz := ⟨_, rfl⟩
      have hszl : sz < 4294967296 := by rw [← hsz]; exact Cp.word_lt _
      have HZ := mkH hsz
      have H1 : Hid (Cp.sum (r.take 4) = Cp.word (r.drop 4)) := by unfold Hid; rw [HS1.out, HW1.out, h1]
      clear hsz h1 HS1 HW1
      go_wp2_with fail
      refine (word_part _ _ _ _ r sz HZ.out (by omega) (by omega) (by omega) (hr.below hB)).mono ?_
      rintro e u3 ⟨rfl, q3, rfl⟩
      have hB := below_drewN hB q3
      generalize wc.drewN q3 = wd at hB ⊢
      by_cases h2 : 65536 < sz
      · have t2 : decide ((65536 : Int) < (sz : Int)) = true := by simp; omega
        have HE : Hid (Cp.fd r = (3, 0)) := by unfold Hid; exact Cp.fd_long (by omega) H1.out (by rw [HZ.out]; exact h2)
        clear hr HZ H1
        go_wp2
        go_ret3
        exact ⟨hB, .inl (by rw [HE.out]; exact ⟨by simp, rfl⟩)⟩
      · have t2 : decide ((65536 : Int) < (sz : Int)) = false := by simp; omega
        have hsz2 : (sz : Int) ≤ 65536 := by omega
        by_cases h3 : m < sz
        · have t3 : (m : Int) < (sz : Int) := by omega
          have HE : Hid (Cp.fd r = (4, 0)) := by unfold Hid; exact Cp.fd_cut (by omega) H1.out (by rw [HZ.out]; omega) (by rw [HZ.out]; omega)
          clear hr HZ H1
          go_wp2
          go_ret3
          exact ⟨hB, .inl (by rw [HE.out]; exact ⟨by simp, rfl⟩)⟩
        · have t3 : (sz : Int) ≤ (m : Int) := by omega
          have t4 : (sz : Int) ≤ (d : Int) := by omega
          have i1 : (8 : Int) ≤ (d : Int) + 12 := by omega
          have i2 : (8 : Int) ≤ (m : Int) + 12 := by omega
          have i4 : ¬ (d + 12 = 8) := by omega
          have hz12 : 12 + sz - 12 = sz := by omega
          obtain ⟨aq, haq⟩ : ∃ aq, (if d = 0 then some (⟨b, off + k, none⟩ : Addr) else some ⟨b, off + k + 12, none⟩) = aq := ⟨_, rfl⟩
          have HQ : Hid (∀ u, Row u (some ⟨b, off + k, none⟩) r → Row u aq ((r.drop 12).take sz)) := by
            unfold Hid
            intro u hu
            rcases Nat.eq_zero_or_pos d with h0 | h0
            · have e0 : sz = 0 := by omega
              rw [e0, List.take_zero]; exact Row.nil _ _
            · rw [← haq, if_neg (by omega)]
              exact Row_take (Row_at hu 12) sz
          obtain ⟨s2, hs2⟩ : ∃ s2, Cp.sum ((r.drop 12).take sz) = s2 := ⟨_, rfl⟩
          obtain ⟨w2, hw2⟩ : ∃ w2, Cp.word (r.drop 8) = w2 := ⟨_, rfl⟩
          have HS2 := mkH hs2
          have HW2 := mkH hw2
          have hlt : ((r.drop 12).take sz).length = sz := by rw [List.length_take, List.length_drop]; omega
          have hlw : (r.drop 8).length = m + 4 := by rw [List.length_drop]; omega
          clear hs2 hw2
          go_upto_region 15 with fail
          go_region_held3 (fun w' => True) (trivial) (first
            | (go_at_call 64; refine (sum_part _ _ aq sz _ d ((r.drop 12).take sz) s2 HS2.out (by omega) (by omega) ?_ _ rfl ?_ ?_).mono ?_; (refine hT.below (B := w.heap.size) ?_ hT0; (repeat (first | exact hB | refine Below.drew ?_ | refine below_drewN ?_ _ | refine Below.alloc ?_ (by have := hB.size; simp; omega) _))); (exact cell_new_at wd #[.slice aq sz d] 30 0 _ rfl); (refine (HQ.out _ hr).below ?_; (repeat (first | exact hB | refine Below.drew ?_ | refine below_drewN ?_ _ | refine Below.alloc ?_ (by have := hB.size; simp; omega) _))); rintro e u1 ⟨rfl, rfl⟩)
            | (go_at_call 84; refine (word_part _ _ _ _ (r.drop 8) w2 HW2.out (by omega) (by omega) (by omega) ?_).mono ?_; (refine (Row_at hr 8).below ?_; (repeat (first | exact hB | refine Below.drew ?_ | refine below_drewN ?_ _ | refine Below.alloc ?_ (by have := hB.size; simp; omega) _))); rintro e u2 ⟨rfl, q, rfl⟩))
          have hB : Below w.heap.size w ((wd.alloc (.cells #[.slice aq sz d] 30)).drewN (1 + q)) := by (repeat (first | exact hB | refine Below.drew ?_ | refine below_drewN ?_ _ | refine Below.alloc ?_ (by have := hB.size; simp; omega) _))
          by_cases h4 : s2 = w2
          · have t5 : ((s2 : Int) != (w2 : Int)) = false := by simp [h4]
            have HE : Hid (Cp.fd r = (0, sz)) := by
              unfold Hid
              rw [Cp.fd_ok (by omega) H1.out (by rw [HZ.out]; omega) (by rw [HZ.out]; omega) (by rw [HZ.out, HS2.out, HW2.out]; exact h4), HZ.out]
            clear hr HZ H1 HS2 HW2 h4 hlt hlw haq
            go_wp2
            go_ret3
            refine ⟨hB, .inr ?_⟩
            rw [HE.out]
            have hsum : (k : Int) + (12 + (sz : Int)) = ((k + 12 + sz : Nat) : Int) := by omega
            exact ⟨rfl, aq, by rw [← hsum]; rfl, HQ.out⟩
          · have t5 : ((s2 : Int) != (w2 : Int)) = true := by simp; omega
            have HE : Hid (Cp.fd r = (6, 0)) := by
              unfold Hid
              exact Cp.fd_sum2 (by omega) H1.out (by rw [HZ.out]; omega) (by rw [HZ.out]; omega) (by rw [HZ.out, HS2.out, HW2.out]; exact h4)
            clear hr HZ H1 HS2 HW2 h4 hlt hlw haq
            go_wp2
            go_ret3
            exact ⟨hB, .inl (by rw [HE.out]; exact ⟨by simp, rfl⟩)⟩
    · have t1 : ((s1 : Int) != (w1 : Int)) = true := by simp; omega
      have HE : Hid (Cp.fd r = (6, 0)) := by unfold Hid; exact Cp.fd_sum1 (by omega) (by rw [HS1.out, HW1.out]; exact h1)
      clear hr HS1 HW1 h1
      go_wp2
      go_ret3
      exact ⟨hB, .inl (by rw [HE.out]; exact ⟨by simp, rfl⟩)⟩

set_option maxHeartbeats 400000 in
set_option maxRecDepth 20000 in
theorem clone_nil (w : World) (cap : Nat) :
    Calls Tryz.prog 75 #[.slice none 0 cap] w fun e w' => e = .returned (.slice none 0 0) ∧ w' = w := by
  have hq := eql_nil (P := Tryz.prog) w 30 5 none 0 cap Tryz.underlying30
  simp only [Option.isNone] at hq
  go_enter Tryz.func75, Tryz.ntmps75
  go_wp2
  go_ret
  exact ⟨rfl, rfl⟩
theorem own_mono {w : World} {B B' e n : Nat} {v : Value} {xs : List Value} (h : w.ownsRow B e 1 v n xs) (hB : B' ≤ B) : w.ownsRow B' e 1 v n xs := by
  refine ⟨h.1, ?_⟩
  rcases h.2 with h1 | ⟨g, cap, cur, e1, e2, e3⟩
  · exact .inl h1
  · exact .inr ⟨g, cap, cur, e1, by omega, e3⟩
/-- find at whatever place that there is. -/
theorem find_all (w : World) (ao : Option Addr) (cap k : Nat) (bs : List UInt8) (hT : Tb w) (hr : Row w ao bs) (hl : bs.length ≤ 1000000) (hc : bs.length ≤ cap) (hcap : cap ≤ 9223372036854775807) (hk : k ≤ bs.length) :
    Calls Tryz.prog 74 #[.slice ao bs.length cap, .int .i64 k] w fun e w' => Below w.heap.size w w' ∧
      (((Cp.fd (bs.drop k)).1 ≠ 0 ∧ e = .returned (.tuple #[.slice none 0 0, .int .i64 0, .int .i64 ((Cp.fd (bs.drop k)).1 : Nat)])) ∨
       ((Cp.fd (bs.drop k)).1 = 0 ∧ ∃ aq cq, cq ≤ cap ∧ (Cp.fd (bs.drop k)).2 ≤ cq ∧ e = .returned (.tuple #[.slice aq (Cp.fd (bs.drop k)).2 cq, .int .i64 ((k + 12 + (Cp.fd (bs.drop k)).2 : Nat) : Int), .int .i64 0]) ∧ ∀ u, Row u ao bs → Row u aq ((bs.drop (k + 12)).take (Cp.fd (bs.drop k)).2))) := by
  by_cases h : bs.length < k + 12
  · have e : Cp.fd (bs.drop k) = (4, 0) := Cp.fd_short (by rw [List.length_drop]; omega)
    refine (find_short w ao bs.length cap k (by omega) hc hcap hk h).mono ?_
    rintro e w1 ⟨rfl, rfl⟩
    rw [e]
    exact ⟨Below.refl _ _, .inl ⟨by simp, rfl⟩⟩
  · obtain ⟨b, off, rfl, _⟩ := hr (by omega)
    have hf := find_any w b off (cap - 12 - k) k (bs.length - 12 - k) (bs.drop k) hT (Row_at hr k) (by rw [List.length_drop]; omega) (by omega) (by omega) (by omega) (by omega)
    rw [show bs.length - 12 - k + 12 + k = bs.length by omega, show cap - 12 - k + 12 + k = cap by omega] at hf
    refine hf.mono ?_
    rintro e w1 ⟨hB, h1 | ⟨h1, aq, rfl, h2⟩⟩
    · exact ⟨hB, .inl h1⟩
    · refine ⟨hB, .inr ⟨h1, aq, _, by omega, ?_, rfl, fun u hu => ?_⟩⟩
      · have := (Cp.fd_some h1).1
        rw [List.length_drop] at this
        omega
      · have := h2 u (Row_at hu k)
        rw [List.drop_drop] at this
        exact this

theorem fd_body {r : List UInt8} (h : (Cp.fd r).1 = 0) : ((r.drop 12).take (Cp.fd r).2).length = (Cp.fd r).2 := by
  have := (Cp.fd_some h).1
  rw [List.length_take, List.length_drop]; omega

set_option maxHeartbeats 1000000 in
set_option maxRecDepth 20000 in
theorem next_all (w : World) (ao : Option Addr) (cap k : Nat) (bs : List UInt8) (hT : Tb w) (hr : Row w ao bs) (hl : bs.length ≤ 1000000) (hc : bs.length ≤ cap) (hcap : cap ≤ 9223372036854775807) (hk : k ≤ bs.length) :
    Calls Tryz.prog 54 #[.slice ao bs.length cap, .int .i64 k] w fun e w' => Below w.heap.size w w' ∧
      (((Cp.fd (bs.drop k)).1 ≠ 0 ∧ e = .returned (.tuple #[.slice none 0 0, .int .i64 0, .int .i64 ((Cp.fd (bs.drop k)).1 : Nat)])) ∨
       ((Cp.fd (bs.drop k)).1 = 0 ∧ ∃ v, e = .returned (.tuple #[v, .int .i64 ((k + 12 + (Cp.fd (bs.drop k)).2 : Nat) : Int), .int .i64 0]) ∧ w'.ownsRow w.heap.size 5 1 v (Cp.fd (bs.drop k)).2 (U ((bs.drop (k + 12)).take (Cp.fd (bs.drop k)).2)))) := by
  go_enter Tryz.func54, Tryz.ntmps54
  go_wp2_with fail
  refine (find_all w ao cap k bs hT hr hl hc hcap hk).mono ?_
  rintro e w1 ⟨hB, ⟨h1, rfl⟩ | ⟨h1, aq, cq, hq1, hq2, rfl, hq⟩⟩
  · go_wp2_with fail
    refine (clone_nil w1 0).mono ?_
    rintro e w2 ⟨rfl, rfl⟩
    go_wp2
    go_ret3
    exact ⟨hB, .inl ⟨h1, rfl⟩⟩
  · have hbl := fd_body h1
    rw [List.drop_drop] at hbl
    have hrow := (hq w hr).below hB
    have hC := clone_any w1 aq cq _ hrow (by have := (Cp.fd_some h1).2; omega)
    rw [hbl] at hC
    go_wp2_with fail
    refine hC.mono ?_
    rintro e w2 ⟨v2, rfl, hown2, hb2⟩
    clear hC hrow hq
    go_wp2
    go_ret3
    exact ⟨hB.trans (hb2.mono hB.size), .inr ⟨h1, v2, rfl, own_mono hown2 hB.size⟩⟩

set_option maxHeartbeats 1000000 in
set_option maxRecDepth 20000 in
theorem next_arg (w : World) (ao : Option Addr) (n cap : Nat) (k : Int) (h : k < 0 ∨ (n : Int) < k) :
    Calls Tryz.prog 54 #[.slice ao n cap, .int .i64 k] w fun e w' => e = .returned (.tuple #[.slice none 0 0, .int .i64 0, .int .i64 2]) ∧ w' = w := by
  go_enter Tryz.func54, Tryz.ntmps54
  go_wp2_with fail
  refine (find_arg w ao n cap k h).mono ?_
  rintro e w1 ⟨rfl, rfl⟩
  go_wp2_with fail
  refine (clone_nil w1 0).mono ?_
  rintro e w2 ⟨rfl, rfl⟩
  go_wp2
  go_ret3
  exact ⟨rfl, rfl⟩
end Go.Proofs.YthmedpabgblddabGreatDoor.Cn
